/- The walk of the program's ReadTerm, out of a contract of its reader of a node. -/
import Derived.Test.YtmghkeahlhlclaaDoorPr4
import Derived.Test.YtmghkeahlhlclaaDoorPr6
namespace Go.Proofs.YtmghkeahlhlclaaDoor.Pr7
open Go.RowKit
open Nd0 Nd3 Ap2 Tm0 Tx0 Tx1 Ss0 Ss1 Tb0 Tb1 Px0 Pr1 Pr2 Mp0 Pr4 Pr6 Ic3
set_option linter.unusedVariables false

def PPost (w : World) (s : List UInt8) (e : Ending) (w' : World) : Prop :=
  ∃ (a : Option Addr) (c : Nat), e = .returned (.tuple #[.slice a (pRead s).1.length c, .int .i64 (pRead s).2.1, .int .i64 (pRead s).2.2]) ∧ WNodes w' w.heap.size a (pRead s).1 ∧ Below w.heap.size w w' ∧ (pRead s).1.length ≤ c

theorem own_room {w : World} {B n c : Nat} {a : Option Addr} {L : List Nd} (h : Own w B (.slice a n c) L) : L.length ≤ c := by
  obtain ⟨h1, h2⟩ := h
  rcases h2 with ⟨h0, h9⟩ | ⟨g', cap, cur, he, hb, hg, hn, rest⟩
  · cases h0; omega
  · cases he; exact hn
/-- The world in which the reader begins. -/
def W0 (w : World) (S : ByteArray) : World :=
  ((((w.alloc (.cells #[.slice none 0 0] 26)).alloc (.cells #[.int .i64 0] 3)).alloc (.cells #[.int .i64 0] 3)).alloc (.map #[] 0)).alloc (.cells #[.string S, .int .i64 0, .slice none 0 0, .map (some (w.heap.size + 1 + 1 + 1))] 56)
theorem W0_kept (w : World) (S : ByteArray) : Kept (fun _ => False) w (W0 w S) := (((((Kept.refl _ w).alloc _).alloc _).alloc _).alloc _).alloc _
theorem W0_size (w : World) (S : ByteArray) : (W0 w S).heap.size = w.heap.size + 5 := by unfold W0; simp
theorem W0_c (w : World) (S : ByteArray) : (W0 w S).cell? ⟨w.heap.size, 0, none⟩ = some (.slice none 0 0) ∧ (W0 w S).cell? ⟨w.heap.size + 1, 0, none⟩ = some (.int .i64 0) ∧ (W0 w S).cell? ⟨w.heap.size + 1 + 1, 0, none⟩ = some (.int .i64 0) ∧ (W0 w S).frozen? ⟨w.heap.size, 0, none⟩ = false ∧ (W0 w S).frozen? ⟨w.heap.size + 1, 0, none⟩ = false ∧ (W0 w S).frozen? ⟨w.heap.size + 1 + 1, 0, none⟩ = false := by
  unfold W0
  simp [go_sem]
theorem W0_rb (w : World) (S : ByteArray) : RB (W0 w S) (w.heap.size + 1 + 1 + 1 + 1) S 0 (.slice none 0 0) (w.heap.size + 1 + 1 + 1) := by
  unfold W0
  constructor <;> simp [go_sem]
theorem W0_pr (w : World) (S : ByteArray) : PR (W0 w S) w.heap.size (w.heap.size + 1 + 1 + 1 + 1) S 0 [] (w.heap.size + 1 + 1 + 1) (fun k => k < w.heap.size + 3) := by
  refine ⟨⟨_, W0_rb w S, ⟨rfl, .inl ⟨rfl, rfl⟩⟩, fun k hk => by cases hk⟩, ?_, by omega, by omega, by omega, by omega, by omega, ⟨by simp, fun k hk => by simp at hk⟩, Nat.zero_le _, fun k hk => by rw [W0_size]; omega, fun n hn => by cases hn⟩
  have h := Mp.new (((w.alloc (.cells #[.slice none 0 0] 26)).alloc (.cells #[.int .i64 0] 3)).alloc (.cells #[.int .i64 0] 3))
  have e : (((w.alloc (.cells #[.slice none 0 0] 26)).alloc (.cells #[.int .i64 0] 3)).alloc (.cells #[.int .i64 0] 3)).heap.size = w.heap.size + 1 + 1 + 1 := by simp
  rw [e] at h
  exact h.kept (S := fun _ => False) ((Kept.refl _ _).alloc _) (fun e => e)

/-- The end of ReadTerm behind a failure. -/
theorem fail_end (w w5 : World) (S : ByteArray) (x : Er) (T : Array Value) (hT2 : T[2]?.getD undef = .pointer (some ⟨w.heap.size, 0, none⟩)) (hT3 : T[3]?.getD undef = .pointer (some ⟨w.heap.size + 1, 0, none⟩)) (hT4 : T[4]?.getD undef = .pointer (some ⟨w.heap.size + 1 + 1, 0, none⟩))
    (hK : Kept (fun k => ¬ k < w.heap.size + 3) (W0 w S) w5) (hp : pRead (tl S) = ([], x.1, (x.2 : Int))) :
    Leaves Tryd.prog Tryd.f12 T (PPost w (tl S)) [{ target := .fn (.func 26) #[.pointer (some ⟨w.heap.size, 0, none⟩), .pointer (some ⟨w.heap.size + 1, 0, none⟩), .pointer (some ⟨w.heap.size + 1 + 1, 0, none⟩)], args := #[] }] (.panicking [fl x]) w5 := by
  have hc := W0_c w S
  have hsz := W0_size w S
  have F0 : ¬ ¬ w.heap.size < w.heap.size + 3 := by omega
  have F1 : ¬ ¬ w.heap.size + 1 < w.heap.size + 3 := by omega
  have F2 : ¬ ¬ w.heap.size + 1 + 1 < w.heap.size + 3 := by omega
  have d0 : w5.cell? ⟨w.heap.size, 0, none⟩ = some (.slice none 0 0) := by rw [hK.cell (p := ⟨w.heap.size, 0, none⟩) (by show w.heap.size < (W0 w S).heap.size; omega) F0]; exact hc.1
  have d1 : w5.cell? ⟨w.heap.size + 1, 0, none⟩ = some (.int .i64 0) := by rw [hK.cell (p := ⟨w.heap.size + 1, 0, none⟩) (by show w.heap.size + 1 < (W0 w S).heap.size; omega) F1]; exact hc.2.1
  have d2 : w5.cell? ⟨w.heap.size + 1 + 1, 0, none⟩ = some (.int .i64 0) := by rw [hK.cell (p := ⟨w.heap.size + 1 + 1, 0, none⟩) (by show w.heap.size + 1 + 1 < (W0 w S).heap.size; omega) F2]; exact hc.2.2.1
  have f0 : w5.frozen? ⟨w.heap.size, 0, none⟩ = false := by rw [hK.frozen (p := ⟨w.heap.size, 0, none⟩) (by show w.heap.size < (W0 w S).heap.size; omega) F0]; exact hc.2.2.2.1
  have f1 : w5.frozen? ⟨w.heap.size + 1, 0, none⟩ = false := by rw [hK.frozen (p := ⟨w.heap.size + 1, 0, none⟩) (by show w.heap.size + 1 < (W0 w S).heap.size; omega) F1]; exact hc.2.2.2.2.1
  have f2 : w5.frozen? ⟨w.heap.size + 1 + 1, 0, none⟩ = false := by rw [hK.frozen (p := ⟨w.heap.size + 1 + 1, 0, none⟩) (by show w.heap.size + 1 + 1 < (W0 w S).heap.size; omega) F2]; exact hc.2.2.2.2.2
  refine leaves_cons (f := 26) (args := #[.pointer (some ⟨w.heap.size, 0, none⟩), .pointer (some ⟨w.heap.size + 1, 0, none⟩), .pointer (some ⟨w.heap.size + 1 + 1, 0, none⟩)]) (by simp) (by simp [go_sem]) ?_
  refine (catchFail w.heap.size (w.heap.size + 1) (w.heap.size + 1 + 1) x [] w5 (by omega) (by omega) (by omega) _ _ _ d0 d1 d2 f0 f1 f2).mono ?_
  rintro e u' w' ⟨rfl, rfl, ⟨k, h1⟩, h2, h3, hk⟩
  refine ⟨.tuple #[.slice (some ⟨k, 0, none⟩) 0 0, .int .i64 x.1, .int .i64 (x.2 : Int)], by simp [results, Tryd.results12, go_sem, hT2, hT3, hT4, h1, h2, h3], ?_⟩
  have k0 := W0_kept w S
  unfold PPost
  rw [hp]
  refine ⟨_, _, rfl, ⟨Nat.zero_le _, .inl rfl⟩, ⟨hk.os.trans (hK.os.trans k0.os), hk.tape.trans (hK.tape.trans k0.tape), hk.output.trans (hK.output.trans k0.output), Nat.le_trans k0.size (Nat.le_trans hK.size hk.size), fun i hi => ?_⟩, Nat.zero_le _⟩
  have h5 : i < (W0 w S).heap.size := Nat.lt_of_lt_of_le hi k0.size
  rw [hk.block i (Nat.lt_of_lt_of_le h5 hK.size) (by omega), hK.block i h5 (by omega), k0.block i hi (fun e => e)]

set_option maxRecDepth 100000 in
set_option maxHeartbeats 4000000 in
theorem iReadP (hND : ∀ f, INode f) (w : World) (S : ByteArray) (hT : TabR w) (hS : S.size ≤ 2097152) : Calls Tryd.prog 12 #[.string S] w (PPost w (tl S)) := by
  have HND : Hid (∀ f, INode f) := hND
  have HT : Hid (TabR w) := hT
  have hmf : ∀ (fn : Fn) (first cap : Array Value) (w : World), (Instr.makeFunc fn first cap).run Tryd.prog w = .ok (.func fn first cap) w := fun _ _ _ _ => rfl
  have hmm := @run_makeMap Tryd.prog
  clear hND hT
  by_cases h4 : 4000 < S.size
  · have h4z : (4000 : Int) < (S.size : Int) := by omega
    have HP : Hid (pRead (tl S) = ([], 1, 0)) := by show _ = _; unfold pRead; rw [if_pos (by rw [tl_length]; exact h4)]
    go_enter_defers Tryd.func12, Tryd.ntmps12
    go_wp2
    refine ⟨.tuple #[.slice (some ⟨w.heap.size + 1 + 1 + 1, 0, none⟩) 0 0, .int .i64 1, .int .i64 0], by simp [results, Tryd.results12, go_sem], ?_⟩
    unfold PPost
    rw [HP.out]
    exact ⟨_, _, rfl, ⟨Nat.zero_le _, .inl rfl⟩, ((((Below.refl _ _).alloc (Nat.le_refl _) _).alloc (by simp) _).alloc (by simp; omega) _).alloc (by simp; omega) _, Nat.zero_le _⟩
  · have h4z : ¬ (4000 : Int) < (S.size : Int) := by omega
    have hs4 : S.size ≤ 4000 := by omega
    have HP : Hid (pRead (tl S) = match pNode (tl S) (S.size + 1) (0, []) with | .error x => ([], x.1, (x.2 : Int)) | .ok y => if y.2.1 < S.size then ([], 5, (y.2.1 : Int)) else (y.2.2, 0, 0)) := by
      show _ = _
      unfold pRead
      rw [if_neg (by rw [tl_length]; omega), tl_length]
      cases pNode (tl S) (S.size + 1) (0, []) <;> rfl
    have HTW : Hid (∀ w', Below w.heap.size (W0 w S) w' → TabR w') := fun w' hb => HT.out.below ((⟨(W0_kept w S).os, (W0_kept w S).tape, (W0_kept w S).output, (W0_kept w S).size, fun i hi => (W0_kept w S).block i hi (fun e => e)⟩ : Below w.heap.size w (W0 w S)).trans hb)
    clear h4
    go_enter_defers Tryd.func12, Tryd.ntmps12
    go_wp2_with fail
    refine (HND.out (S.size + 1) (W0 w S) w.heap.size (w.heap.size + 1 + 1 + 1 + 1) S 0 [] (w.heap.size + 1 + 1 + 1) (fun k => k < w.heap.size + 3) (W0_pr w S) (fun k hk => by show k < w.heap.size + 3; omega) HTW.out hs4 (by omega)).mono ?_
    rintro e w5 ⟨ho, hk⟩
    have HK : Hid (Kept (fun k => ¬ k < w.heap.size + 3) (W0 w S) w5) := hk
    clear hk
    cases hn : pNode (tl S) (S.size + 1) (0, []) with
    | error x =>
      obtain rfl := ho.2 x hn
      have HE : Hid (pRead (tl S) = ([], x.1, (x.2 : Int))) := by show _ = _; rw [HP.out, hn]
      clear ho hn
      go_wp2
      exact fail_end w w5 S x _ rfl rfl rfl HK.out HE.out
    | ok y =>
      obtain ⟨rfl, hpr⟩ := ho.1 y hn
      have HPR : Hid (PR w5 w.heap.size (w.heap.size + 1 + 1 + 1 + 1) S y.2.1 y.2.2 (w.heap.size + 1 + 1 + 1) (fun k => k < w.heap.size + 3)) := hpr
      have HE : Hid (pRead (tl S) = if y.2.1 < S.size then ([], 5, (y.2.1 : Int)) else (y.2.2, 0, 0)) := by show _ = _; rw [HP.out, hn]
      obtain ⟨v, hrb, hown, hvb⟩ := hpr.ex
      obtain ⟨a, c, rfl, hwn⟩ := hown.form
      have m1 := hrb.c1
      have m2 := hrb.c2
      have HOW : Hid (Own w5 w.heap.size (.slice a y.2.2.length c) y.2.2) := hown
      have HVB : Hid (∀ k, (Value.slice a y.2.2.length c).ownBlock = some k → ¬ k < w.heap.size + 3) := fun k hk => (hvb k hk).1
      clear ho hn hpr hrb hown hvb hwn
      by_cases hlt : y.2.1 < S.size
      · have hlz : (y.2.1 : Int) < (S.size : Int) := by omega
        have HE2 : Hid (pRead (tl S) = ([], 5, (y.2.1 : Int))) := by show _ = _; rw [HE.out, if_pos hlt]
        go_wp2_with fail
        refine (iFail _ _ _).mono ?_
        rintro e w' ⟨rfl, rfl⟩
        go_wp2
        exact fail_end w _ S (5, y.2.1) _ rfl rfl rfl HK.out HE2.out
      · have hlz : ¬ (y.2.1 : Int) < (S.size : Int) := by omega
        have HE2 : Hid (pRead (tl S) = (y.2.2, 0, 0)) := by show _ = _; rw [HE.out, if_neg hlt]
        have hc := W0_c w S
        have hsz := W0_size w S
        have F0 : ¬ ¬ w.heap.size < w.heap.size + 3 := by omega
        have F1 : ¬ ¬ w.heap.size + 1 < w.heap.size + 3 := by omega
        have F2 : ¬ ¬ w.heap.size + 1 + 1 < w.heap.size + 3 := by omega
        have d0 : w5.cell? ⟨w.heap.size, 0, none⟩ = some (.slice none 0 0) := by rw [HK.out.cell (p := ⟨w.heap.size, 0, none⟩) (by show w.heap.size < (W0 w S).heap.size; omega) F0]; exact hc.1
        have d1 : w5.cell? ⟨w.heap.size + 1, 0, none⟩ = some (.int .i64 0) := by rw [HK.out.cell (p := ⟨w.heap.size + 1, 0, none⟩) (by show w.heap.size + 1 < (W0 w S).heap.size; omega) F1]; exact hc.2.1
        have d2 : w5.cell? ⟨w.heap.size + 1 + 1, 0, none⟩ = some (.int .i64 0) := by rw [HK.out.cell (p := ⟨w.heap.size + 1 + 1, 0, none⟩) (by show w.heap.size + 1 + 1 < (W0 w S).heap.size; omega) F2]; exact hc.2.2.1
        have f0 : w5.frozen? ⟨w.heap.size, 0, none⟩ = false := by rw [HK.out.frozen (p := ⟨w.heap.size, 0, none⟩) (by show w.heap.size < (W0 w S).heap.size; omega) F0]; exact hc.2.2.2.1
        have f1 : w5.frozen? ⟨w.heap.size + 1, 0, none⟩ = false := by rw [HK.out.frozen (p := ⟨w.heap.size + 1, 0, none⟩) (by show w.heap.size + 1 < (W0 w S).heap.size; omega) F1]; exact hc.2.2.2.2.1
        have f2 : w5.frozen? ⟨w.heap.size + 1 + 1, 0, none⟩ = false := by rw [HK.out.frozen (p := ⟨w.heap.size + 1 + 1, 0, none⟩) (by show w.heap.size + 1 + 1 < (W0 w S).heap.size; omega) F2]; exact hc.2.2.2.2.2
        clear hc hsz F0 F1 F2 hlt
        obtain ⟨wz, hwz⟩ : ∃ wz : World, wz = ((w5.setCell ⟨w.heap.size, 0, none⟩ (.slice a y.2.2.length c)).setCell ⟨w.heap.size + 1, 0, none⟩ (.int .i64 0)).setCell ⟨w.heap.size + 1 + 1, 0, none⟩ (.int .i64 0) := ⟨_, rfl⟩
        have g1 : w.heap.size ≠ w.heap.size + 1 := by omega
        have g2 : w.heap.size ≠ w.heap.size + 1 + 1 := by omega
        have g3 : w.heap.size + 1 ≠ w.heap.size + 1 + 1 := by omega
        have Z0 : Hid (wz.cell? ⟨w.heap.size, 0, none⟩ = some (.slice a y.2.2.length c)) := by
          show _ = _
          rw [hwz, set_far (by exact g2.symm), set_far (by exact g1.symm)]; exact set_same d0
        have Z1 : Hid (wz.cell? ⟨w.heap.size + 1, 0, none⟩ = some (.int .i64 0)) := by
          show _ = _
          rw [hwz, set_far (by exact g3.symm)]; exact set_same (by rw [set_far (by exact g1)]; exact d1)
        have Z2 : Hid (wz.cell? ⟨w.heap.size + 1 + 1, 0, none⟩ = some (.int .i64 0)) := by
          show _ = _
          rw [hwz]; exact set_same (by rw [set_far (by exact g3), set_far (by exact g2)]; exact d2)
        have HKZ : Hid (Kept (fun k => k = w.heap.size ∨ k = w.heap.size + 1 ∨ k = w.heap.size + 1 + 1) w5 wz) := by
          show Kept _ _ _
          rw [hwz]
          exact (((Kept.refl _ w5).setCell (p := ⟨w.heap.size, 0, none⟩) (.inl rfl) _).setCell (p := ⟨w.heap.size + 1, 0, none⟩) (.inr (.inl rfl)) _).setCell (p := ⟨w.heap.size + 1 + 1, 0, none⟩) (.inr (.inr rfl)) _
        have HWZ : Hid (wz = ((w5.setCell ⟨w.heap.size, 0, none⟩ (.slice a y.2.2.length c)).setCell ⟨w.heap.size + 1, 0, none⟩ (.int .i64 0)).setCell ⟨w.heap.size + 1 + 1, 0, none⟩ (.int .i64 0)) := hwz
        clear hwz g1 g2 g3
        go_wp2
        rw [← HWZ.out]
        refine leaves_cons (f := 26) (args := #[.pointer (some ⟨w.heap.size, 0, none⟩), .pointer (some ⟨w.heap.size + 1, 0, none⟩), .pointer (some ⟨w.heap.size + 1 + 1, 0, none⟩)]) (by simp) (by simp [go_sem]) ?_
        refine (catchIdle _ _ _ _).mono ?_
        rintro e u' w6 ⟨rfl, rfl, hb6⟩
        have z0 : w6.cell? ⟨w.heap.size, 0, none⟩ = some (.slice a y.2.2.length c) := by rw [hb6.cell (p := ⟨w.heap.size, 0, none⟩) (lt_of_cell Z0.out)]; exact Z0.out
        have z1 : w6.cell? ⟨w.heap.size + 1, 0, none⟩ = some (.int .i64 0) := by rw [hb6.cell (p := ⟨w.heap.size + 1, 0, none⟩) (lt_of_cell Z1.out)]; exact Z1.out
        have z2 : w6.cell? ⟨w.heap.size + 1 + 1, 0, none⟩ = some (.int .i64 0) := by rw [hb6.cell (p := ⟨w.heap.size + 1 + 1, 0, none⟩) (lt_of_cell Z2.out)]; exact Z2.out
        refine ⟨.tuple #[.slice a y.2.2.length c, .int .i64 0, .int .i64 0], by simp [results, Tryd.results12, go_sem, z0, z1, z2], ?_⟩
        have k0 := W0_kept w S
        have hK := HK.out
        have hkz := HKZ.out
        have ho6 : Own w6 w.heap.size (.slice a y.2.2.length c) y.2.2 := (HOW.out.kept hkz (fun k hk e => by have := HVB.out k hk; omega)).kept (S := fun _ => False) (Kept.ofBelow hb6) (fun _ _ e => e)
        obtain ⟨a', c', hv, hwn⟩ := ho6.form
        cases hv
        unfold PPost
        rw [HE2.out]
        refine ⟨a, c, rfl, hwn, ⟨hb6.os.trans (hkz.os.trans (hK.os.trans k0.os)), hb6.tape.trans (hkz.tape.trans (hK.tape.trans k0.tape)), hb6.output.trans (hkz.output.trans (hK.output.trans k0.output)), Nat.le_trans k0.size (Nat.le_trans hK.size (Nat.le_trans hkz.size hb6.size)), fun i hi => ?_⟩, own_room ho6⟩
        have h5 : i < (W0 w S).heap.size := Nat.lt_of_lt_of_le hi k0.size
        have h6 : i < w5.heap.size := Nat.lt_of_lt_of_le h5 hK.size
        rw [hb6.block i (Nat.lt_of_lt_of_le h6 hkz.size), hkz.block i h6 (by omega), hK.block i h5 (by omega), k0.block i hi (fun e => e)]

end Go.Proofs.YtmghkeahlhlclaaDoor.Pr7
