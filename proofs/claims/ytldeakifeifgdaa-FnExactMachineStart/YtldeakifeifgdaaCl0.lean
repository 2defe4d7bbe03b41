/- slices.Clone at flags, numbers and Seens. Written by tools/gen_cl0.py. -/
import Derived.Maps.AppendAt
import Derived.Lib.SliceRun
import Derived.Test.YtldeakifeifgdaaAp0
import Derived.Test.YtldeakifeifgdaaNd6
import Derived.Test.YtldeakifeifgdaaQc2
namespace Go.Proofs.Ytldeakifeifgdaa.Cl0
open Go.RowKit
open Nd0 (Kept Ints lt_of_cell)
open Nd6 (Bools)
open Ap0 Ap1 Qc0 Qc2
set_option linter.unusedVariables false

theorem add_at (g o j : Nat) : (⟨g, o, none⟩ : Addr).add j = ⟨g, o + j, none⟩ := by unfold Addr.add; split <;> simp_all
set_option maxHeartbeats 1000000 in
theorem iCloneBs (w : World) (a : Option Addr) (l : List Bool) (c : Nat) (h : Bools w a l) (hl : l.length ≤ 1048576) :
    Calls Try.prog 56 #[.slice a l.length c] w fun e w' => ∃ v, e = .returned v ∧ Owb w' w.heap.size v l ∧ Below w.heap.size w w' := by
  have H : Hid (Bools w a l) := h
  clear h
  cases a with
  | none =>
    have hl0 : l.length = 0 := by
      rcases H.out.2 with e | ⟨b, o, hb, _⟩
      · exact e
      · cases hb
    have HE : Hid (l = []) := List.eq_nil_of_length_eq_zero hl0
    rw [hl0]
    clear hl0
    have heq := fun w n c => Go.Lib.run_eql_slice_nil (P := Try.prog) w 22 4 none n c 0 0 Try.underlying22
    go_enter Try.func56, Try.ntmps56
    go_wp2
    go_ret
    exact ⟨_, rfl, by rw [HE.out]; exact ⟨rfl, .inl ⟨rfl, rfl⟩⟩, Below.refl _ _⟩
  | some x =>
    obtain ⟨g, o, hx, hc⟩ : ∃ g o, (l.length = 0 ∨ x = ⟨g, o, none⟩) ∧ (∀ j (hj : j < l.length), w.cell? ⟨g, o + j, none⟩ = some (.bool l[j])) := by
      rcases H.out.2 with e | ⟨b, o, hb, hc⟩
      · exact ⟨0, 0, .inl e, fun j hj => by omega⟩
      · cases hb; exact ⟨b, o, .inr rfl, hc⟩
    have HX : Hid (l.length = 0 ∨ x = ⟨g, o, none⟩) := hx
    have HC : Hid (∀ j (hj : j < l.length), w.cell? ⟨g, o + j, none⟩ = some (.bool l[j])) := hc
    have HB0 : Hid (Below w.heap.size w (w.alloc (.cells #[] 4))) := (Below.refl _ _).alloc (Nat.le_refl _) _
    clear hx hc
    obtain ⟨i, hi, hzz⟩ := Option.map_eq_some_iff.1 infoBool
    simp only [Prod.mk.injEq] at hzz
    obtain ⟨hz, hsz, hb⟩ := hzz
    have HI : Hid (Try.prog.info? 4 = some i) := hi
    have HZ : Hid _ := hz
    have HSZ : Hid _ := hsz
    have HBY : Hid _ := hb
    clear hi hz hsz hb
    have HNW : Hid (∀ j u, (l.map fun x => Value.bool x)[j]? = some u → (w.alloc (.cells #[] 4)).cell? (x.add j) = some u) := by
      rcases HX.out with e | e
      · intro j u hu
        have : l = [] := List.eq_nil_of_length_eq_zero e
        subst this
        cases hu
      · subst e
        have hc : ∀ j (hj : j < l.length), (w.alloc (.cells #[] 4)).cell? ⟨g, o + j, none⟩ = some (.bool l[j]) := fun j hj => by rw [HB0.out.cell (lt_of_cell (HC.out j hj))]; exact HC.out j hj
        exact (fun j u hu => by
      have hj : j < l.length := by have := (List.getElem?_eq_some_iff.1 hu).1; simpa using this
      rw [add_at, hc j hj, ← hu]
      simp [hj])
    have HON : Hid (∀ u ∈ (l.map fun x => Value.bool x), u.oneCell' = true) := (fun u hu => by
      obtain ⟨n, _, rfl⟩ := List.mem_map.1 hu
      rfl)
    have HLN : Hid ((l.map fun x => Value.bool x).length = l.length * 1) := (by show _ = _; simp)
    have heq := fun w n c => Go.Lib.run_eql_slice_nil (P := Try.prog) w 22 4 (some x) n c 0 0 Try.underlying22
    go_enter Try.func56, Try.ntmps56
    go_wp2_with (at_builtin; go_must (refine wpList_append_own_at (P := Try.prog) (w.alloc (.cells #[] 4)) rfl _ _ 22 rfl w.heap.size 4 i _ 1 1 Try.underlying22 HI.out HZ.out HSZ.out HBY.out rfl (by omega) (.slice (some ⟨w.heap.size, 0, none⟩) 0 0) 0 [] rfl (Owb.lit w w.heap.size (Nat.le_refl _)) x l.length c (l.map fun x => Value.bool x) rfl HLN.out HNW.out HON.out (by unfold maxLen; omega) (by omega) (by simp) ?_; intro v' w' h1 h2 h3 h4; have HO : Hid (Owb w' w.heap.size v' l) := (by rw [Nat.zero_add, List.nil_append] at h1; exact h1); have HB : Hid (Below w.heap.size w w') := HB0.out.trans ⟨h2.os, h2.tape, h2.output, (by have := h2.size; have := HB0.out.size; omega), fun k hk => h2.block k (Nat.lt_of_lt_of_le hk HB0.out.size) (fun e => by simp [Value.ownBlock] at e; omega)⟩; clear h1 h2 h3 h4))
    go_ret
    exact ⟨_, rfl, HO.out, HB.out⟩

set_option maxHeartbeats 1000000 in
theorem iCloneIs (w : World) (a : Option Addr) (l : List Int) (c : Nat) (h : Ints w a l) (hl : l.length ≤ 1048576) :
    Calls Try.prog 57 #[.slice a l.length c] w fun e w' => ∃ v, e = .returned v ∧ Ows w' w.heap.size v l ∧ Below w.heap.size w w' := by
  have H : Hid (Ints w a l) := h
  clear h
  cases a with
  | none =>
    have hl0 : l.length = 0 := by
      rcases H.out.2 with e | ⟨b, o, hb, _⟩
      · exact e
      · cases hb
    have HE : Hid (l = []) := List.eq_nil_of_length_eq_zero hl0
    rw [hl0]
    clear hl0
    have heq := fun w n c => Go.Lib.run_eql_slice_nil (P := Try.prog) w 25 3 none n c 0 0 Try.underlying25
    go_enter Try.func57, Try.ntmps57
    go_wp2
    go_ret
    exact ⟨_, rfl, by rw [HE.out]; exact ⟨rfl, .inl ⟨rfl, rfl⟩⟩, Below.refl _ _⟩
  | some x =>
    obtain ⟨g, o, hx, hc⟩ : ∃ g o, (l.length = 0 ∨ x = ⟨g, o, none⟩) ∧ (∀ j (hj : j < l.length), w.cell? ⟨g, o + j, none⟩ = some (.int .i64 l[j])) := by
      rcases H.out.2 with e | ⟨b, o, hb, hc⟩
      · exact ⟨0, 0, .inl e, fun j hj => by omega⟩
      · cases hb; exact ⟨b, o, .inr rfl, hc⟩
    have HX : Hid (l.length = 0 ∨ x = ⟨g, o, none⟩) := hx
    have HC : Hid (∀ j (hj : j < l.length), w.cell? ⟨g, o + j, none⟩ = some (.int .i64 l[j])) := hc
    have HB0 : Hid (Below w.heap.size w (w.alloc (.cells #[] 3))) := (Below.refl _ _).alloc (Nat.le_refl _) _
    clear hx hc
    obtain ⟨i, hi, hzz⟩ := Option.map_eq_some_iff.1 infoInt
    simp only [Prod.mk.injEq] at hzz
    obtain ⟨hz, hsz, hb⟩ := hzz
    have HI : Hid (Try.prog.info? 3 = some i) := hi
    have HZ : Hid _ := hz
    have HSZ : Hid _ := hsz
    have HBY : Hid _ := hb
    clear hi hz hsz hb
    have HNW : Hid (∀ j u, (l.map fun x => Value.int .i64 x)[j]? = some u → (w.alloc (.cells #[] 3)).cell? (x.add j) = some u) := by
      rcases HX.out with e | e
      · intro j u hu
        have : l = [] := List.eq_nil_of_length_eq_zero e
        subst this
        cases hu
      · subst e
        have hc : ∀ j (hj : j < l.length), (w.alloc (.cells #[] 3)).cell? ⟨g, o + j, none⟩ = some (.int .i64 l[j]) := fun j hj => by rw [HB0.out.cell (lt_of_cell (HC.out j hj))]; exact HC.out j hj
        exact (fun j u hu => by
      have hj : j < l.length := by have := (List.getElem?_eq_some_iff.1 hu).1; simpa using this
      rw [add_at, hc j hj, ← hu]
      simp [hj])
    have HON : Hid (∀ u ∈ (l.map fun x => Value.int .i64 x), u.oneCell' = true) := (fun u hu => by
      obtain ⟨n, _, rfl⟩ := List.mem_map.1 hu
      rfl)
    have HLN : Hid ((l.map fun x => Value.int .i64 x).length = l.length * 1) := (by show _ = _; simp)
    have heq := fun w n c => Go.Lib.run_eql_slice_nil (P := Try.prog) w 25 3 (some x) n c 0 0 Try.underlying25
    go_enter Try.func57, Try.ntmps57
    go_wp2_with (at_builtin; go_must (refine wpList_append_own_at (P := Try.prog) (w.alloc (.cells #[] 3)) rfl _ _ 25 rfl w.heap.size 3 i _ 1 8 Try.underlying25 HI.out HZ.out HSZ.out HBY.out rfl (by omega) (.slice (some ⟨w.heap.size, 0, none⟩) 0 0) 0 [] rfl (Ows.lit w w.heap.size (Nat.le_refl _)) x l.length c (l.map fun x => Value.int .i64 x) rfl HLN.out HNW.out HON.out (by unfold maxLen; omega) (by omega) (by simp) ?_; intro v' w' h1 h2 h3 h4; have HO : Hid (Ows w' w.heap.size v' l) := (by rw [Nat.zero_add, List.nil_append] at h1; exact h1); have HB : Hid (Below w.heap.size w w') := HB0.out.trans ⟨h2.os, h2.tape, h2.output, (by have := h2.size; have := HB0.out.size; omega), fun k hk => h2.block k (Nat.lt_of_lt_of_le hk HB0.out.size) (fun e => by simp [Value.ownBlock] at e; omega)⟩; clear h1 h2 h3 h4))
    go_ret
    exact ⟨_, rfl, HO.out, HB.out⟩

theorem flat_len (l : List Sn) : (flatSn l).length = l.length * 2 := by
  induction l with
  | nil => rfl
  | cons x l ih => show (x.cells ++ flatSn l).length = _; rw [List.length_append, ih, cellsSn_length, List.length_cons]; omega
set_option maxHeartbeats 1000000 in
theorem iCloneSs (w : World) (a : Option Addr) (l : List Sn) (c : Nat) (h : Sns w a l) (hl : l.length ≤ 1048576) :
    Calls Try.prog 58 #[.slice a l.length c] w fun e w' => ∃ v, e = .returned v ∧ OwSn w' w.heap.size v l ∧ Below w.heap.size w w' := by
  have H : Hid (Sns w a l) := h
  clear h
  cases a with
  | none =>
    have hl0 : l.length = 0 := by
      rcases H.out.2 with e | ⟨b, o, hb, _⟩
      · exact e
      · cases hb
    have HE : Hid (l = []) := List.eq_nil_of_length_eq_zero hl0
    rw [hl0]
    clear hl0
    have heq := fun w n c => Go.Lib.run_eql_slice_nil (P := Try.prog) w 32 57 none n c 0 0 Try.underlying32
    go_enter Try.func58, Try.ntmps58
    go_wp2
    go_ret
    exact ⟨_, rfl, by rw [HE.out]; exact ⟨rfl, .inl ⟨rfl, rfl⟩⟩, Below.refl _ _⟩
  | some x =>
    obtain ⟨g, o, hx, hc⟩ : ∃ g o, (l.length = 0 ∨ x = ⟨g, o, none⟩) ∧ (∀ j (hj : j < l.length), SnAt w g (o + j * 2) l[j]) := by
      rcases H.out.2 with e | ⟨b, o, hb, hc⟩
      · exact ⟨0, 0, .inl e, fun j hj => by omega⟩
      · cases hb; exact ⟨b, o, .inr rfl, hc⟩
    have HX : Hid (l.length = 0 ∨ x = ⟨g, o, none⟩) := hx
    have HC : Hid (∀ j (hj : j < l.length), SnAt w g (o + j * 2) l[j]) := hc
    have HB0 : Hid (Below w.heap.size w (w.alloc (.cells #[] 57))) := (Below.refl _ _).alloc (Nat.le_refl _) _
    clear hx hc
    obtain ⟨i, hi, hzz⟩ := Option.map_eq_some_iff.1 infoASn
    simp only [Prod.mk.injEq] at hzz
    obtain ⟨hz, hsz, hb⟩ := hzz
    have HI : Hid (Try.prog.info? 57 = some i) := hi
    have HZ : Hid _ := hz
    have HSZ : Hid _ := hsz
    have HBY : Hid _ := hb
    clear hi hz hsz hb
    have HNW : Hid (∀ j u, (flatSn l)[j]? = some u → (w.alloc (.cells #[] 57)).cell? (x.add j) = some u) := by
      rcases HX.out with e | e
      · intro j u hu
        have : l = [] := List.eq_nil_of_length_eq_zero e
        subst this
        cases hu
      · subst e
        have hc : ∀ j (hj : j < l.length), SnAt (w.alloc (.cells #[] 57)) g (o + j * 2) l[j] := fun j hj => (HC.out j hj).below HB0.out (HC.out j hj).lt
        exact (fun j u hu => by
      have hj2 : j < (flatSn l).length := (List.getElem?_eq_some_iff.1 hu).1
      rw [flat_len] at hj2
      have hj : j / 2 < l.length := by omega
      have hg := flatSn_get l (j / 2) hj (j % 2) (by omega)
      rw [show j / 2 * 2 + j % 2 = j by omega, hu] at hg
      obtain ⟨c0, c1⟩ := hc (j / 2) hj
      rw [add_at, hg]
      rcases (show j % 2 = 0 ∨ j % 2 = 1 by omega) with e | e
      · rw [e, show o + j = o + j / 2 * 2 by omega, c0]; rfl
      · rw [e, show o + j = o + j / 2 * 2 + 1 by omega, c1]; rfl)
    have HON : Hid (∀ u ∈ (flatSn l), u.oneCell' = true) := (fun u hu => by
      obtain ⟨n, _, hn⟩ := List.mem_flatMap.1 hu
      simp [Sn.cells] at hn
      rcases hn with rfl | rfl <;> rfl)
    have HLN : Hid ((flatSn l).length = l.length * 2) := (by show _ = _; rw [flat_len])
    have heq := fun w n c => Go.Lib.run_eql_slice_nil (P := Try.prog) w 32 57 (some x) n c 0 0 Try.underlying32
    go_enter Try.func58, Try.ntmps58
    go_wp2_with (at_builtin; go_must (refine wpList_append_own_at (P := Try.prog) (w.alloc (.cells #[] 57)) rfl _ _ 32 rfl w.heap.size 57 i _ 2 24 Try.underlying32 HI.out HZ.out HSZ.out HBY.out rfl (by omega) (.slice (some ⟨w.heap.size, 0, none⟩) 0 0) 0 [] rfl (OwSn.lit w w.heap.size (Nat.le_refl _)) x l.length c (flatSn l) rfl HLN.out HNW.out HON.out (by unfold maxLen; omega) (by omega) (by simp) ?_; intro v' w' h1 h2 h3 h4; have HO : Hid (OwSn w' w.heap.size v' l) := (by rw [Nat.zero_add, List.nil_append] at h1; exact h1); have HB : Hid (Below w.heap.size w w') := HB0.out.trans ⟨h2.os, h2.tape, h2.output, (by have := h2.size; have := HB0.out.size; omega), fun k hk => h2.block k (Nat.lt_of_lt_of_le hk HB0.out.size) (fun e => by simp [Value.ownBlock] at e; omega)⟩; clear h1 h2 h3 h4))
    go_ret
    exact ⟨_, rfl, HO.out, HB.out⟩

end Go.Proofs.Ytldeakifeifgdaa.Cl0
