/- Small texts of mine, one behind the other. -/
import Derived.Test.YtmghkeahlhlclaaGreatDoorRows
import Derived.SizedLaws
import Derived.Test.YtmghkeahlhlclaaGreatDoorPkS
import Derived.Test.YtmghkeahlhlclaaGreatDoorPkP
import Derived.Test.YtmghkeahlhlclaaGreatDoorPkT
import Derived.Test.YtmghkeahlhlclaaGreatDoorPkH
/- The walk of the program's ReadTerm, out of a contract of its reader of a node. -/
namespace Go.Proofs.YtmghkeahlhlclaaGreatDoor.Pr7
open Go.RowKit
open Nd0 Nd3 Ap2 Tm0 Tx0 Tx1 Ss0 Ss1 Tb0 Tb1 Px0 Pr1 Pr2 Mp0 Pr4 Pr6 Ic3
set_option linter.unusedVariables false

def PPost (w : World) (s : List UInt8) (e : Ending) (w' : World) : Prop :=
  ∃ (a : Option Addr) (c : Nat), e = .returned (.tuple #[.slice a (pRead s).1.length c, .int .i64 (pRead s).2.1, .int .i64 (pRead s).2.2]) ∧ WNodes w' w.heap.size a (pRead s).1 ∧ Below w.heap.size w w' ∧ (pRead s).1.length ≤ c

theorem own_room {w : World} {B n c : Nat} {a : Option Addr} {L : List Nd} (h : Own w B (.slice a n c) L) : L.length ≤ c := by
  obtain ⟨h1, h2⟩ := h
  rcases h2 with ⟨h0, h9⟩ | ⟨g', cap, cur, he, hb, hg, hn, rest⟩
  · cases h0; omega
  · cases he; exact hn
/-- The world in which the reader begins. -/
def W0 (w : World) (S : ByteArray) : World :=
  ((((w.alloc (.cells #[.slice none 0 0] 24)).alloc (.cells #[.int .i64 0] 3)).alloc (.cells #[.int .i64 0] 3)).alloc (.map #[] 0)).alloc (.cells #[.string S, .int .i64 0, .slice none 0 0, .map (some (w.heap.size + 1 + 1 + 1))] 55)
theorem W0_kept (w : World) (S : ByteArray) : Kept (fun _ => False) w (W0 w S) := (((((Kept.refl _ w).alloc _).alloc _).alloc _).alloc _).alloc _
theorem W0_size (w : World) (S : ByteArray) : (W0 w S).heap.size = w.heap.size + 5 := by unfold W0; simp
theorem W0_c (w : World) (S : ByteArray) : (W0 w S).cell? ⟨w.heap.size, 0, none⟩ = some (.slice none 0 0) ∧ (W0 w S).cell? ⟨w.heap.size + 1, 0, none⟩ = some (.int .i64 0) ∧ (W0 w S).cell? ⟨w.heap.size + 1 + 1, 0, none⟩ = some (.int .i64 0) ∧ (W0 w S).frozen? ⟨w.heap.size, 0, none⟩ = false ∧ (W0 w S).frozen? ⟨w.heap.size + 1, 0, none⟩ = false ∧ (W0 w S).frozen? ⟨w.heap.size + 1 + 1, 0, none⟩ = false := by
  unfold W0
  simp [go_sem]
theorem W0_rb (w : World) (S : ByteArray) : RB (W0 w S) (w.heap.size + 1 + 1 + 1 + 1) S 0 (.slice none 0 0) (w.heap.size + 1 + 1 + 1) := by
  unfold W0
  constructor <;> simp [go_sem]
theorem W0_pr (w : World) (S : ByteArray) : PR (W0 w S) w.heap.size (w.heap.size + 1 + 1 + 1 + 1) S 0 [] (w.heap.size + 1 + 1 + 1) (fun k => k < w.heap.size + 3) := by
  refine ⟨⟨_, W0_rb w S, ⟨rfl, .inl ⟨rfl, rfl⟩⟩, fun k hk => by cases hk⟩, ?_, by omega, by omega, by omega, by omega, by omega, ⟨by simp, fun k hk => by simp at hk⟩, Nat.zero_le _, fun k hk => by rw [W0_size]; omega, fun n hn => by cases hn⟩
  have h := Mp.new (((w.alloc (.cells #[.slice none 0 0] 24)).alloc (.cells #[.int .i64 0] 3)).alloc (.cells #[.int .i64 0] 3))
  have e : (((w.alloc (.cells #[.slice none 0 0] 24)).alloc (.cells #[.int .i64 0] 3)).alloc (.cells #[.int .i64 0] 3)).heap.size = w.heap.size + 1 + 1 + 1 := by simp
  rw [e] at h
  exact h.kept (S := fun _ => False) ((Kept.refl _ _).alloc _) (fun e => e)

/-- The end of ReadTerm behind a failure. -/
theorem fail_end (w w5 : World) (S : ByteArray) (x : Er) (T : Array Value) (hT2 : T[2]?.getD undef = .pointer (some ⟨w.heap.size, 0, none⟩)) (hT3 : T[3]?.getD undef = .pointer (some ⟨w.heap.size + 1, 0, none⟩)) (hT4 : T[4]?.getD undef = .pointer (some ⟨w.heap.size + 1 + 1, 0, none⟩))
    (hK : Kept (fun k => ¬ k < w.heap.size + 3) (W0 w S) w5) (hp : pRead (tl S) = ([], x.1, (x.2 : Int))) :
    Leaves Tryz.prog Tryz.f12 T (PPost w (tl S)) [{ target := .fn (.func 30) #[.pointer (some ⟨w.heap.size, 0, none⟩), .pointer (some ⟨w.heap.size + 1, 0, none⟩), .pointer (some ⟨w.heap.size + 1 + 1, 0, none⟩)], args := #[] }] (.panicking [fl x]) w5 := by
  have hc := W0_c w S
  have hsz := W0_size w S
  have F0 : ¬ ¬ w.heap.size < w.heap.size + 3 := by omega
  have F1 : ¬ ¬ w.heap.size + 1 < w.heap.size + 3 := by omega
  have F2 : ¬ ¬ w.heap.size + 1 + 1 < w.heap.size + 3 := by omega
  have d0 : w5.cell? ⟨w.heap.size, 0, none⟩ = some (.slice none 0 0) := by rw [hK.cell (p := ⟨w.heap.size, 0, none⟩) (by show w.heap.size < (W0 w S).heap.size; omega) F0]; exact hc.1
  have d1 : w5.cell? ⟨w.heap.size + 1, 0, none⟩ = some (.int .i64 0) := by rw [hK.cell (p := ⟨w.heap.size + 1, 0, none⟩) (by show w.heap.size + 1 < (W0 w S).heap.size; omega) F1]; exact hc.2.1
  have d2 : w5.cell? ⟨w.heap.size + 1 + 1, 0, none⟩ = some (.int .i64 0) := by rw [hK.cell (p := ⟨w.heap.size + 1 + 1, 0, none⟩) (by show w.heap.size + 1 + 1 < (W0 w S).heap.size; omega) F2]; exact hc.2.2.1
  have f0 : w5.frozen? ⟨w.heap.size, 0, none⟩ = false := by rw [hK.frozen (p := ⟨w.heap.size, 0, none⟩) (by show w.heap.size < (W0 w S).heap.size; omega) F0]; exact hc.2.2.2.1
  have f1 : w5.frozen? ⟨w.heap.size + 1, 0, none⟩ = false := by rw [hK.frozen (p := ⟨w.heap.size + 1, 0, none⟩) (by show w.heap.size + 1 < (W0 w S).heap.size; omega) F1]; exact hc.2.2.2.2.1
  have f2 : w5.frozen? ⟨w.heap.size + 1 + 1, 0, none⟩ = false := by rw [hK.frozen (p := ⟨w.heap.size + 1 + 1, 0, none⟩) (by show w.heap.size + 1 + 1 < (W0 w S).heap.size; omega) F2]; exact hc.2.2.2.2.2
  refine leaves_cons (f := 30) (args := #[.pointer (some ⟨w.heap.size, 0, none⟩), .pointer (some ⟨w.heap.size + 1, 0, none⟩), .pointer (some ⟨w.heap.size + 1 + 1, 0, none⟩)]) (by simp) (by simp [go_sem]) ?_
  refine (catchFail w.heap.size (w.heap.size + 1) (w.heap.size + 1 + 1) x [] w5 (by omega) (by omega) (by omega) _ _ _ d0 d1 d2 f0 f1 f2).mono ?_
  rintro e u' w' ⟨rfl, rfl, ⟨k, h1⟩, h2, h3, hk⟩
  refine ⟨.tuple #[.slice (some ⟨k, 0, none⟩) 0 0, .int .i64 x.1, .int .i64 (x.2 : Int)], by simp [results, Tryz.results12, go_sem, hT2, hT3, hT4, h1, h2, h3], ?_⟩
  have k0 := W0_kept w S
  unfold PPost
  rw [hp]
  refine ⟨_, _, rfl, ⟨Nat.zero_le _, .inl rfl⟩, ⟨hk.os.trans (hK.os.trans k0.os), hk.tape.trans (hK.tape.trans k0.tape), hk.output.trans (hK.output.trans k0.output), Nat.le_trans k0.size (Nat.le_trans hK.size hk.size), fun i hi => ?_⟩, Nat.zero_le _⟩
  have h5 : i < (W0 w S).heap.size := Nat.lt_of_lt_of_le hi k0.size
  rw [hk.block i (Nat.lt_of_lt_of_le h5 hK.size) (by omega), hK.block i h5 (by omega), k0.block i hi (fun e => e)]

set_option maxRecDepth 100000 in
set_option maxHeartbeats 4000000 in
theorem iReadP (hND : ∀ f, INode f) (w : World) (S : ByteArray) (hT : TabR w) (hS : S.size ≤ 2097152) : Calls Tryz.prog 12 #[.string S] w (PPost w (tl S)) := by
  have HND : Hid (∀ f, INode f) := hND
  have HT : Hid (TabR w) := hT
  have hmf : ∀ (fn : Fn) (first cap : Array Value) (w : World), (Instr.makeFunc fn first cap).run Tryz.prog w = .ok (.func fn first cap) w := fun _ _ _ _ => rfl
  have hmm := @run_makeMap Tryz.prog
  clear hND hT
  by_cases h4 : 4000 < S.size
  · have h4z : (4000 : Int) < (S.size : Int) := by omega
    have HP : Hid (pRead (tl S) = ([], 1, 0)) := by show _ = _; unfold pRead; rw [if_pos (by rw [tl_length]; exact h4)]
    go_enter_defers Tryz.func12, Tryz.ntmps12
    go_wp2
    refine ⟨.tuple #[.slice (some ⟨w.heap.size + 1 + 1 + 1, 0, none⟩) 0 0, .int .i64 1, .int .i64 0], by simp [results, Tryz.results12, go_sem], ?_⟩
    unfold PPost
    rw [HP.out]
    exact ⟨_, _, rfl, ⟨Nat.zero_le _, .inl rfl⟩, ((((Below.refl _ _).alloc (Nat.le_refl _) _).alloc (by simp) _).alloc (by simp; omega) _).alloc (by simp; omega) _, Nat.zero_le _⟩
  · have h4z : ¬ (4000 : Int) < (S.size : Int) := by omega
    have hs4 : S.size ≤ 4000 := by omega
    have HP : Hid (pRead (tl S) = match pNode (tl S) (S.size + 1) (0, []) with | .error x => ([], x.1, (x.2 : Int)) | .ok y => if y.2.1 < S.size then ([], 5, (y.2.1 : Int)) else (y.2.2, 0, 0)) := by
      show _ = _
      unfold pRead
      rw [if_neg (by rw [tl_length]; omega), tl_length]
      cases pNode (tl S) (S.size + 1) (0, []) <;> rfl
    have HTW : Hid (∀ w', Below w.heap.size (W0 w S) w' → TabR w') := fun w' hb => HT.out.below ((⟨(W0_kept w S).os, (W0_kept w S).tape, (W0_kept w S).output, (W0_kept w S).size, fun i hi => (W0_kept w S).block i hi (fun e => e)⟩ : Below w.heap.size w (W0 w S)).trans hb)
    clear h4
    go_enter_defers Tryz.func12, Tryz.ntmps12
    go_wp2_with fail
    refine (HND.out (S.size + 1) (W0 w S) w.heap.size (w.heap.size + 1 + 1 + 1 + 1) S 0 [] (w.heap.size + 1 + 1 + 1) (fun k => k < w.heap.size + 3) (W0_pr w S) (fun k hk => by show k < w.heap.size + 3; omega) HTW.out hs4 (by omega)).mono ?_
    rintro e w5 ⟨ho, hk⟩
    have HK : Hid (Kept (fun k => ¬ k < w.heap.size + 3) (W0 w S) w5) := hk
    clear hk
    cases hn : pNode (tl S) (S.size + 1) (0, []) with
    | error x =>
      obtain rfl := ho.2 x hn
      have HE : Hid (pRead (tl S) = ([], x.1, (x.2 : Int))) := by show _ = _; rw [HP.out, hn]
      clear ho hn
      go_wp2
      exact fail_end w w5 S x _ rfl rfl rfl HK.out HE.out
    | ok y =>
      obtain ⟨rfl, hpr⟩ := ho.1 y hn
      have HPR : Hid (PR w5 w.heap.size (w.heap.size + 1 + 1 + 1 + 1) S y.2.1 y.2.2 (w.heap.size + 1 + 1 + 1) (fun k => k < w.heap.size + 3)) := hpr
      have HE : Hid (pRead (tl S) = if y.2.1 < S.size then ([], 5, (y.2.1 : Int)) else (y.2.2, 0, 0)) := by show _ = _; rw [HP.out, hn]
      obtain ⟨v, hrb, hown, hvb⟩ := hpr.ex
      obtain ⟨a, c, rfl, hwn⟩ := hown.form
      have m1 := hrb.c1
      have m2 := hrb.c2
      have HOW : Hid (Own w5 w.heap.size (.slice a y.2.2.length c) y.2.2) := hown
      have HVB : Hid (∀ k, (Value.slice a y.2.2.length c).ownBlock = some k → ¬ k < w.heap.size + 3) := fun k hk => (hvb k hk).1
      clear ho hn hpr hrb hown hvb hwn
      by_cases hlt : y.2.1 < S.size
      · have hlz : (y.2.1 : Int) < (S.size : Int) := by omega
        have HE2 : Hid (pRead (tl S) = ([], 5, (y.2.1 : Int))) := by show _ = _; rw [HE.out, if_pos hlt]
        go_wp2_with fail
        refine (iFail _ _ _).mono ?_
        rintro e w' ⟨rfl, rfl⟩
        go_wp2
        exact fail_end w _ S (5, y.2.1) _ rfl rfl rfl HK.out HE2.out
      · have hlz : ¬ (y.2.1 : Int) < (S.size : Int) := by omega
        have HE2 : Hid (pRead (tl S) = (y.2.2, 0, 0)) := by show _ = _; rw [HE.out, if_neg hlt]
        have hc := W0_c w S
        have hsz := W0_size w S
        have F0 : ¬ ¬ w.heap.size < w.heap.size + 3 := by omega
        have F1 : ¬ ¬ w.heap.size + 1 < w.heap.size + 3 := by omega
        have F2 : ¬ ¬ w.heap.size + 1 + 1 < w.heap.size + 3 := by omega
        have d0 : w5.cell? ⟨w.heap.size, 0, none⟩ = some (.slice none 0 0) := by rw [HK.out.cell (p := ⟨w.heap.size, 0, none⟩) (by show w.heap.size < (W0 w S).heap.size; omega) F0]; exact hc.1
        have d1 : w5.cell? ⟨w.heap.size + 1, 0, none⟩ = some (.int .i64 0) := by rw [HK.out.cell (p := ⟨w.heap.size + 1, 0, none⟩) (by show w.heap.size + 1 < (W0 w S).heap.size; omega) F1]; exact hc.2.1
        have d2 : w5.cell? ⟨w.heap.size + 1 + 1, 0, none⟩ = some (.int .i64 0) := by rw [HK.out.cell (p := ⟨w.heap.size + 1 + 1, 0, none⟩) (by show w.heap.size + 1 + 1 < (W0 w S).heap.size; omega) F2]; exact hc.2.2.1
        have f0 : w5.frozen? ⟨w.heap.size, 0, none⟩ = false := by rw [HK.out.frozen (p := ⟨w.heap.size, 0, none⟩) (by show w.heap.size < (W0 w S).heap.size; omega) F0]; exact hc.2.2.2.1
        have f1 : w5.frozen? ⟨w.heap.size + 1, 0, none⟩ = false := by rw [HK.out.frozen (p := ⟨w.heap.size + 1, 0, none⟩) (by show w.heap.size + 1 < (W0 w S).heap.size; omega) F1]; exact hc.2.2.2.2.1
        have f2 : w5.frozen? ⟨w.heap.size + 1 + 1, 0, none⟩ = false := by rw [HK.out.frozen (p := ⟨w.heap.size + 1 + 1, 0, none⟩) (by show w.heap.size + 1 + 1 < (W0 w S).heap.size; omega) F2]; exact hc.2.2.2.2.2
        clear hc hsz F0 F1 F2 hlt
        obtain ⟨wz, hwz⟩ : ∃ wz : World, wz = ((w5.setCell ⟨w.heap.size, 0, none⟩ (.slice a y.2.2.length c)).setCell ⟨w.heap.size + 1, 0, none⟩ (.int .i64 0)).setCell ⟨w.heap.size + 1 + 1, 0, none⟩ (.int .i64 0) := ⟨_, rfl⟩
        have g1 : w.heap.size ≠ w.heap.size + 1 := by omega
        have g2 : w.heap.size ≠ w.heap.size + 1 + 1 := by omega
        have g3 : w.heap.size + 1 ≠ w.heap.size + 1 + 1 := by omega
        have Z0 : Hid (wz.cell? ⟨w.heap.size, 0, none⟩ = some (.slice a y.2.2.length c)) := by
          show _ = _
          rw [hwz, set_far (by exact g2.symm), set_far (by exact g1.symm)]; exact set_same d0
        have Z1 : Hid (wz.cell? ⟨w.heap.size + 1, 0, none⟩ = some (.int .i64 0)) := by
          show _ = _
          rw [hwz, set_far (by exact g3.symm)]; exact set_same (by rw [set_far (by exact g1)]; exact d1)
        have Z2 : Hid (wz.cell? ⟨w.heap.size + 1 + 1, 0, none⟩ = some (.int .i64 0)) := by
          show _ = _
          rw [hwz]; exact set_same (by rw [set_far (by exact g3), set_far (by exact g2)]; exact d2)
        have HKZ : Hid (Kept (fun k => k = w.heap.size ∨ k = w.heap.size + 1 ∨ k = w.heap.size + 1 + 1) w5 wz) := by
          show Kept _ _ _
          rw [hwz]
          exact (((Kept.refl _ w5).setCell (p := ⟨w.heap.size, 0, none⟩) (.inl rfl) _).setCell (p := ⟨w.heap.size + 1, 0, none⟩) (.inr (.inl rfl)) _).setCell (p := ⟨w.heap.size + 1 + 1, 0, none⟩) (.inr (.inr rfl)) _
        have HWZ : Hid (wz = ((w5.setCell ⟨w.heap.size, 0, none⟩ (.slice a y.2.2.length c)).setCell ⟨w.heap.size + 1, 0, none⟩ (.int .i64 0)).setCell ⟨w.heap.size + 1 + 1, 0, none⟩ (.int .i64 0)) := hwz
        clear hwz g1 g2 g3
        go_wp2
        rw [← HWZ.out]
        refine leaves_cons (f := 30) (args := #[.pointer (some ⟨w.heap.size, 0, none⟩), .pointer (some ⟨w.heap.size + 1, 0, none⟩), .pointer (some ⟨w.heap.size + 1 + 1, 0, none⟩)]) (by simp) (by simp [go_sem]) ?_
        refine (catchIdle _ _ _ _).mono ?_
        rintro e u' w6 ⟨rfl, rfl, hb6⟩
        have z0 : w6.cell? ⟨w.heap.size, 0, none⟩ = some (.slice a y.2.2.length c) := by rw [hb6.cell (p := ⟨w.heap.size, 0, none⟩) (lt_of_cell Z0.out)]; exact Z0.out
        have z1 : w6.cell? ⟨w.heap.size + 1, 0, none⟩ = some (.int .i64 0) := by rw [hb6.cell (p := ⟨w.heap.size + 1, 0, none⟩) (lt_of_cell Z1.out)]; exact Z1.out
        have z2 : w6.cell? ⟨w.heap.size + 1 + 1, 0, none⟩ = some (.int .i64 0) := by rw [hb6.cell (p := ⟨w.heap.size + 1 + 1, 0, none⟩) (lt_of_cell Z2.out)]; exact Z2.out
        refine ⟨.tuple #[.slice a y.2.2.length c, .int .i64 0, .int .i64 0], by simp [results, Tryz.results12, go_sem, z0, z1, z2], ?_⟩
        have k0 := W0_kept w S
        have hK := HK.out
        have hkz := HKZ.out
        have ho6 : Own w6 w.heap.size (.slice a y.2.2.length c) y.2.2 := (HOW.out.kept hkz (fun k hk e => by have := HVB.out k hk; omega)).kept (S := fun _ => False) (Kept.ofBelow hb6) (fun _ _ e => e)
        obtain ⟨a', c', hv, hwn⟩ := ho6.form
        cases hv
        unfold PPost
        rw [HE2.out]
        refine ⟨a, c, rfl, hwn, ⟨hb6.os.trans (hkz.os.trans (hK.os.trans k0.os)), hb6.tape.trans (hkz.tape.trans (hK.tape.trans k0.tape)), hb6.output.trans (hkz.output.trans (hK.output.trans k0.output)), Nat.le_trans k0.size (Nat.le_trans hK.size (Nat.le_trans hkz.size hb6.size)), fun i hi => ?_⟩, own_room ho6⟩
        have h5 : i < (W0 w S).heap.size := Nat.lt_of_lt_of_le hi k0.size
        have h6 : i < w5.heap.size := Nat.lt_of_lt_of_le h5 hK.size
        rw [hb6.block i (Nat.lt_of_lt_of_le h6 hkz.size), hkz.block i h6 (by omega), hK.block i h5 (by omega), k0.block i hi (fun e => e)]

end Go.Proofs.YtmghkeahlhlclaaGreatDoor.Pr7

/- The walk of the program's reader of a node, by its fuel. -/
namespace Go.Proofs.YtmghkeahlhlclaaGreatDoor.Pr12
open Go.RowKit
open Nd0 Nd3 Ap2 Tm0 Tx0 Tx1 Ss0 Ss1 Tb0 Tb1 Px0 Px1 Px4 Pr1 Pr2 Pr3 Mp0 Pr4 Pr5 Pr8 Pr9 Pr11
open Ss5 (Kb)
open Ws1 (ret_int ret_bool)
set_option linter.unusedVariables false

theorem nx_at {S : ByteArray} {p : Nat} {c : UInt8} (hc : c ≠ 0) : nx (tl S) p = c ↔ (tl S)[p]? = some c := by
  by_cases h : p < S.size
  · rw [nx_in h, tl_at h]; simp
  · rw [nx_off (by omega), tl_off (by omega)]
    constructor
    · intro e; exact absurd e.symm hc
    · intro e; cases e
/-- What stands while a node is read: the reader, the node so far in block bn. -/
structure St1 (w w1 : World) (B b : Nat) (S : ByteArray) (p : Nat) (t : List Nd) (bm : Nat) (F : Nat → Prop) (bn : Nat) (n : Nd) : Prop where
  pr : PR w1 B b S p t bm (fun k => F k ∨ k = bn)
  nw : NW w1 bn n
  kf : Kept (fun k => ¬ F k) w w1
theorem St1.kb {w w1 w2 : World} {B b : Nat} {S : ByteArray} {p q : Nat} {t : List Nd} {bm : Nat} {F : Nat → Prop} {bn : Nat} {n : Nd} (h : St1 w w1 B b S p t bm F bn n) {v : Value} (hv : RB w1 b S p v bm) (h2 : RB w2 b S q v bm) (hq : q ≤ S.size) (k : Kb b w1 w2) : St1 w w2 B b S q t bm F bn n :=
  ⟨PR.moved h.pr hv h2 hq k, h.nw.kept k (fun e => h.pr.fb (.inr (show b = bn from (e : bn = b).symm))), keptF_new h.kf k (fun i hi => .inl (by have e : i = b := hi; rw [e]; exact fun hf => h.pr.fb (.inl hf)))⟩
theorem St1.kbF {w w1 w2 : World} {B b : Nat} {S : ByteArray} {p : Nat} {t : List Nd} {bm : Nat} {F : Nat → Prop} {bn : Nat} {n : Nd} (h : St1 w w1 B b S p t bm F bn n) (k : Kb b w1 w2) : Kept (fun k => ¬ F k) w w2 :=
  keptF_new h.kf k (fun i hi => .inl (by have e : i = b := hi; rw [e]; exact fun hf => h.pr.fb (.inl hf)))
theorem St1.below {w w1 w2 : World} {B b : Nat} {S : ByteArray} {p : Nat} {t : List Nd} {bm : Nat} {F : Nat → Prop} {bn : Nat} {n : Nd} (h : St1 w w1 B b S p t bm F bn n) (k : Below w1.heap.size w1 w2) : St1 w w2 B b S p t bm F bn n :=
  ⟨h.pr.below k, h.nw.kept (D := fun _ => False) (Kept.ofBelow k) (fun e => e), keptF_new (D := fun _ => False) h.kf (Kept.ofBelow k) (fun i hi => by cases hi)⟩
theorem St1.set {w w1 w2 : World} {B b : Nat} {S : ByteArray} {p : Nat} {t : List Nd} {bm : Nat} {F : Nat → Prop} {bn : Nat} {n m : Nd} (h : St1 w w1 B b S p t bm F bn n) (k : Kept (fun i => i = bn) w1 w2) (hn : NW w2 bn m) (hb : w.heap.size ≤ bn) : St1 w w2 B b S p t bm F bn m :=
  ⟨PR.kept h.pr k (fun i hi => .inr hi), hn, keptF_new h.kf k (fun i hi => .inr (by have e : i = bn := hi; omega))⟩
theorem St1.parts {w w1 w2 : World} {B b : Nat} {S : ByteArray} {p q : Nat} {t u : List Nd} {bm : Nat} {F : Nat → Prop} {bn : Nat} {n : Nd} (h : St1 w w1 B b S p t bm F bn n) (h2 : PR w2 B b S q u bm (fun k => F k ∨ k = bn)) (k : Kept (fun i => ¬ (F i ∨ i = bn)) w1 w2) : St1 w w2 B b S q u bm F bn n :=
  ⟨h2, h.nw.kept k (fun e => e (.inr rfl)), keptF_new h.kf k (fun i hi => .inl (fun hf => hi (.inl hf)))⟩
theorem St1.partsF {w w1 w2 : World} {B b : Nat} {S : ByteArray} {p : Nat} {t : List Nd} {bm : Nat} {F : Nat → Prop} {bn : Nat} {n : Nd} (h : St1 w w1 B b S p t bm F bn n) (k : Kept (fun i => ¬ (F i ∨ i = bn)) w1 w2) : Kept (fun k => ¬ F k) w w2 :=
  keptF_new h.kf k (fun i hi => .inl (fun hf => hi (.inl hf)))
theorem St1.new {w : World} {B b : Nat} {S : ByteArray} {p : Nat} {t : List Nd} {bm : Nat} {F : Nat → Prop} (h : PR w B b S p t bm F) (T bn : Nat) (hb : bn = w.heap.size) : St1 w (w.alloc (.cells #[.int .i64 0, .int .i64 0, .int .i64 0, .int .i64 0, .int .i64 0, .int .i64 0] T)) B b S p t bm F bn ⟨0, 0, 0, 0, 0, 0⟩ := by
  refine ⟨PR.widen h ((Below.refl _ _).alloc (Nat.le_refl _) _) (fun i hi => ?_), NW.new w ⟨0, 0, 0, 0, 0, 0⟩ T bn hb, (Kept.refl _ _).alloc _⟩
  rcases hi with e | e
  · exact .inl e
  · exact .inr ⟨by omega, by rw [e, hb]; simp⟩
theorem nw_node {w : World} {b : Nat} {n : Nd} (h : NW w b n) : NodeAt w b 0 n := ⟨h.c0, h.c1, h.c2, h.c3, h.c4, h.c5⟩
theorem nw_ofNode {w w' : World} {b : Nat} {n m : Nd} (h : NW w b n) : NW (setNode w b 0 m) b m := by
  have hk := setNode_same (n := m) (nw_node h)
  refine ⟨hk.c0, hk.c1, hk.c2, hk.c3, hk.c4, hk.c5, ?_, ?_, ?_, ?_, ?_, ?_⟩
  · unfold setNode; simpa using h.f0
  · unfold setNode; simpa using h.f1
  · unfold setNode; simpa using h.f2
  · unfold setNode; simpa using h.f3
  · unfold setNode; simpa using h.f4
  · unfold setNode; simpa using h.f5

set_option maxRecDepth 100000 in
set_option maxHeartbeats 4000000 in
theorem iNodeR (f : Nat) (hI : INode f) : INode (f + 1) := by
  intro w B b S p t bm F h hlow hg hs hfu
  have HBw : Hid (B ≤ w.heap.size) := by obtain ⟨v, r1, _, _⟩ := h.ex; exact Nat.le_trans h.bB (Nat.le_of_lt r1.lt)
  have HI : Hid (INode f) := hI
  have HG : Hid (∀ w', Kept (fun k => ¬ F k) w w' → TabR w') := fun w' k => hg w' (below_of k hlow HBw.out)
  have HG0 : Hid (∀ w', Below B w w' → TabR w') := hg
  have HLOW : Hid (∀ k, k < B → F k) := hlow
  obtain ⟨w0, hw0⟩ : ∃ w0 : World, w0 = w.alloc (.cells #[.int .i64 0, .int .i64 0, .int .i64 0, .int .i64 0, .int .i64 0, .int .i64 0] 48) := ⟨_, rfl⟩
  obtain ⟨bn, hbn⟩ : ∃ bn : Nat, bn = w.heap.size := ⟨_, rfl⟩
  have HS0 : Hid (St1 w w0 B b S p t bm F bn ⟨0, 0, 0, 0, 0, 0⟩) := by show St1 _ _ _ _ _ _ _ _ _ _ _; rw [hw0]; exact St1.new h _ bn hbn
  have HBN : Hid (w.heap.size ≤ bn) := by show _ ≤ _; omega
  have HW0 : Hid (w0 = w.alloc (.cells #[.int .i64 0, .int .i64 0, .int .i64 0, .int .i64 0, .int .i64 0, .int .i64 0] 48)) := hw0
  have hps : p ≤ S.size := h.pS
  obtain ⟨v, hrb, _, _⟩ := h.ex
  have c1 := hrb.c1
  obtain ⟨v0, hrb0, _, _⟩ := HS0.out.pr.ex
  have HRB0 : Hid (RB w0 b S p v0 bm) := hrb0
  have k1 := hrb0.c1
  clear hrb hrb0 h hg hlow hI hw0
  have hs1 : S.size ≤ 100000 := by omega
  go_enter Tryz.func31, Tryz.ntmps31
  go_wp2_with fail
  rw [← HW0.out, ← hbn]
  clear hbn c1 k1
  refine (iNext _ b S p v0 bm HRB0.out hs1 hps).mono ?_
  rintro e w1 ⟨rfl, hb1⟩
  have HS1 : Hid (St1 w w1 B b S p t bm F bn ⟨0, 0, 0, 0, 0, 0⟩) := HS0.out.below hb1
  have HRB1 : Hid (RB w1 b S p v0 bm) := HRB0.out.below hb1
  clear hb1
  by_cases h35 : nx (tl S) p = 35
  · have hq35 : (((nx (tl S) p).toNat : Int) == 35) = true := by rw [h35]; rfl
    have HU : Hid (pNode (tl S) (f + 1) (p, t) = (pPair (tl S) 35 p p).bind fun y => pPut p y.2 t ⟨0, y.1.1, y.1.2, 0, 0, 0⟩) := by
      show _ = _
      simp only [pNode]
      rw [if_pos ((nx_at (by decide)).1 h35)]
    clear h35
    obtain ⟨w2, hw2⟩ : ∃ w2 : World, w2 = w1.setCell ⟨bn, 0, none⟩ (.int .i64 0) := ⟨_, rfl⟩
    have HS2 : Hid (St1 w w2 B b S p t bm F bn ⟨0, 0, 0, 0, 0, 0⟩) := by
      show St1 _ _ _ _ _ _ _ _ _ _ _
      refine HS1.out.set ?_ ?_ HBN.out
      · rw [hw2]; exact (Kept.refl (fun i => i = bn) _).setCell (p := ⟨bn, 0, none⟩) rfl _
      · rw [hw2]; exact HS1.out.nw.setOp _
    have HW2 : Hid (w2 = w1.setCell ⟨bn, 0, none⟩ (.int .i64 0)) := hw2
    have r0 := HS1.out.nw.c0
    have q0 := HS1.out.nw.f0
    obtain ⟨v2, hrb2, _, _⟩ := HS2.out.pr.ex
    have HRB2 : Hid (RB w2 b S p v2 bm) := hrb2
    clear hw2 hrb2
    go_wp2_with fail
    rw [← HW2.out]
    clear r0 q0
    refine (iPairR _ b S p v2 bm 35 p (fun w' k => HG.out _ (HS2.out.kbF k)) HRB2.out hs1 hps).mono ?_
    rintro e w3 ⟨ho3, hk3⟩
    cases h3 : pPair (tl S) 35 p p with
    | error x =>
      obtain rfl := ho3.2 x h3
      have HP : Hid (pNode (tl S) (f + 1) (p, t) = .error x) := by show _ = _; rw [HU.out, h3]; rfl
      have HKX : Hid (Kept (fun k => ¬ F k) w w3) := HS2.out.kbF hk3
      clear ho3 h3 hk3
      go_wp2
      exact ⟨rfl, Out.error HP.out rfl, HKX.out⟩
    | ok y =>
      obtain ⟨rfl, hr3, hp3⟩ := ho3.1 y h3
      have HS3 : Hid (St1 w w3 B b S y.2 t bm F bn ⟨0, 0, 0, 0, 0, 0⟩) := HS2.out.kb HRB2.out hr3 hp3 hk3
      have HU3 : Hid (pNode (tl S) (f + 1) (p, t) = pPut p y.2 t ⟨0, (y.1.1 : Int), (y.1.2 : Int), 0, 0, 0⟩) := by show _ = _; rw [HU.out, h3]; rfl
      have HSM : Hid (y.1.1 < 1000000000 ∧ y.1.2 < 1000000000) := pair_small h3
      clear ho3 h3 hk3 hr3
      obtain ⟨w4, hw4⟩ : ∃ w4 : World, w4 = (w3.setCell ⟨bn, 1, none⟩ (.int .i64 (y.1.1 : Int))).setCell ⟨bn, 2, none⟩ (.int .i64 (y.1.2 : Int)) := ⟨_, rfl⟩
      have HS4 : Hid (St1 w w4 B b S y.2 t bm F bn ⟨0, (y.1.1 : Int), (y.1.2 : Int), 0, 0, 0⟩) := by
        show St1 _ _ _ _ _ _ _ _ _ _ _
        refine HS3.out.set ?_ ?_ HBN.out
        · rw [hw4]; exact ((Kept.refl (fun i => i = bn) _).setCell (p := ⟨bn, 1, none⟩) rfl _).setCell (p := ⟨bn, 2, none⟩) rfl _
        · rw [hw4]; exact (HS3.out.nw.setW _).setK _
      have HW4 : Hid (w4 = (w3.setCell ⟨bn, 1, none⟩ (.int .i64 (y.1.1 : Int))).setCell ⟨bn, 2, none⟩ (.int .i64 (y.1.2 : Int))) := hw4
      have r0 := HS3.out.nw.c0
      have r1 := HS3.out.nw.c1
      have q1 := HS3.out.nw.f1
      have r2 := HS3.out.nw.c2
      have q2 := HS3.out.nw.f2
      have r3 := HS3.out.nw.c3
      have r4 := HS3.out.nw.c4
      have r5 := HS3.out.nw.c5
      clear hw4
      go_wp2_with fail
      rw [← HW4.out]
      clear r0 r1 q1 r2 q2 r3 r4 r5
      refine (iPut _ B b S y.2 t bm (fun k => F k ∨ k = bn) ⟨0, (y.1.1 : Int), (y.1.2 : Int), 0, 0, 0⟩ p HS4.out.pr (wf_leaf _ _ _ (.inl rfl) HSM.out.1 HSM.out.2)).mono ?_
      rintro e w5 ⟨ho5, hk5⟩
      have HKF : Hid (Kept (fun k => ¬ F k) w w5) := HS4.out.partsF hk5
      clear hk5
      cases h5 : putL t ⟨0, (y.1.1 : Int), (y.1.2 : Int), 0, 0, 0⟩ p with
      | error x =>
        obtain rfl := ho5.2 x h5
        have HP : Hid (pNode (tl S) (f + 1) (p, t) = .error x) := by show _ = _; rw [HU3.out]; unfold pPut; rw [h5]; rfl
        clear ho5 h5
        go_wp2
        exact ⟨rfl, Out.error HP.out rfl, HKF.out⟩
      | ok z =>
        obtain ⟨rfl, hpr5⟩ := ho5.1 z h5
        have HP : Hid (pNode (tl S) (f + 1) (p, t) = .ok (z.2, (y.2, z.1))) := by show _ = _; rw [HU3.out]; unfold pPut; rw [h5]; rfl
        have HPF : Hid (PR w5 B b S y.2 z.1 bm F) := PR.narrow (w0 := w5) hpr5 (fun i hi => .inl hi)
        clear ho5 h5 hpr5
        go_wp2
        go_ret
        exact ⟨Out.ok HP.out ⟨rfl, HPF.out⟩, HKF.out⟩
  have hq35 : (((nx (tl S) p).toNat : Int) == 35) = false := by
    rw [beq_eq_false_iff_ne]
    intro e
    exact h35 (UInt8.toNat_inj.1 (by have : (35 : UInt8).toNat = 35 := rfl; omega))
  by_cases h118 : nx (tl S) p = 118
  · have hq118 : (((nx (tl S) p).toNat : Int) == 118) = true := by rw [h118]; rfl
    have HU : Hid (pNode (tl S) (f + 1) (p, t) = (pPair (tl S) 118 p p).bind fun y => pPut p y.2 t ⟨1, y.1.2, y.1.1, 0, 0, 0⟩) := by
      show _ = _
      simp only [pNode]
      rw [if_neg (fun e => h35 ((nx_at (by decide)).2 e)), if_pos ((nx_at (by decide)).1 h118)]
    clear h35 h118
    obtain ⟨w2, hw2⟩ : ∃ w2 : World, w2 = w1.setCell ⟨bn, 0, none⟩ (.int .i64 1) := ⟨_, rfl⟩
    have HS2 : Hid (St1 w w2 B b S p t bm F bn ⟨1, 0, 0, 0, 0, 0⟩) := by
      show St1 _ _ _ _ _ _ _ _ _ _ _
      refine HS1.out.set ?_ ?_ HBN.out
      · rw [hw2]; exact (Kept.refl (fun i => i = bn) _).setCell (p := ⟨bn, 0, none⟩) rfl _
      · rw [hw2]; exact HS1.out.nw.setOp _
    have HW2 : Hid (w2 = w1.setCell ⟨bn, 0, none⟩ (.int .i64 1)) := hw2
    have r0 := HS1.out.nw.c0
    have q0 := HS1.out.nw.f0
    obtain ⟨v2, hrb2, _, _⟩ := HS2.out.pr.ex
    have HRB2 : Hid (RB w2 b S p v2 bm) := hrb2
    clear hw2 hrb2
    go_wp2_with fail
    rw [← HW2.out]
    clear r0 q0
    refine (iPairR _ b S p v2 bm 118 p (fun w' k => HG.out _ (HS2.out.kbF k)) HRB2.out hs1 hps).mono ?_
    rintro e w3 ⟨ho3, hk3⟩
    cases h3 : pPair (tl S) 118 p p with
    | error x =>
      obtain rfl := ho3.2 x h3
      have HP : Hid (pNode (tl S) (f + 1) (p, t) = .error x) := by show _ = _; rw [HU.out, h3]; rfl
      have HKX : Hid (Kept (fun k => ¬ F k) w w3) := HS2.out.kbF hk3
      clear ho3 h3 hk3
      go_wp2
      exact ⟨rfl, Out.error HP.out rfl, HKX.out⟩
    | ok y =>
      obtain ⟨rfl, hr3, hp3⟩ := ho3.1 y h3
      have HS3 : Hid (St1 w w3 B b S y.2 t bm F bn ⟨1, 0, 0, 0, 0, 0⟩) := HS2.out.kb HRB2.out hr3 hp3 hk3
      have HU3 : Hid (pNode (tl S) (f + 1) (p, t) = pPut p y.2 t ⟨1, (y.1.2 : Int), (y.1.1 : Int), 0, 0, 0⟩) := by show _ = _; rw [HU.out, h3]; rfl
      have HSM : Hid (y.1.1 < 1000000000 ∧ y.1.2 < 1000000000) := pair_small h3
      clear ho3 h3 hk3 hr3
      obtain ⟨w4, hw4⟩ : ∃ w4 : World, w4 = (w3.setCell ⟨bn, 2, none⟩ (.int .i64 (y.1.1 : Int))).setCell ⟨bn, 1, none⟩ (.int .i64 (y.1.2 : Int)) := ⟨_, rfl⟩
      have HS4 : Hid (St1 w w4 B b S y.2 t bm F bn ⟨1, (y.1.2 : Int), (y.1.1 : Int), 0, 0, 0⟩) := by
        show St1 _ _ _ _ _ _ _ _ _ _ _
        refine HS3.out.set ?_ ?_ HBN.out
        · rw [hw4]; exact ((Kept.refl (fun i => i = bn) _).setCell (p := ⟨bn, 2, none⟩) rfl _).setCell (p := ⟨bn, 1, none⟩) rfl _
        · rw [hw4]; exact (HS3.out.nw.setK _).setW _
      have HW4 : Hid (w4 = (w3.setCell ⟨bn, 2, none⟩ (.int .i64 (y.1.1 : Int))).setCell ⟨bn, 1, none⟩ (.int .i64 (y.1.2 : Int))) := hw4
      have r0 := HS3.out.nw.c0
      have r1 := HS3.out.nw.c1
      have q1 := HS3.out.nw.f1
      have r2 := HS3.out.nw.c2
      have q2 := HS3.out.nw.f2
      have r3 := HS3.out.nw.c3
      have r4 := HS3.out.nw.c4
      have r5 := HS3.out.nw.c5
      clear hw4
      go_wp2_with fail
      rw [← HW4.out]
      clear r0 r1 q1 r2 q2 r3 r4 r5
      refine (iPut _ B b S y.2 t bm (fun k => F k ∨ k = bn) ⟨1, (y.1.2 : Int), (y.1.1 : Int), 0, 0, 0⟩ p HS4.out.pr (wf_leaf _ _ _ (.inr rfl) HSM.out.2 HSM.out.1)).mono ?_
      rintro e w5 ⟨ho5, hk5⟩
      have HKF : Hid (Kept (fun k => ¬ F k) w w5) := HS4.out.partsF hk5
      clear hk5
      cases h5 : putL t ⟨1, (y.1.2 : Int), (y.1.1 : Int), 0, 0, 0⟩ p with
      | error x =>
        obtain rfl := ho5.2 x h5
        have HP : Hid (pNode (tl S) (f + 1) (p, t) = .error x) := by show _ = _; rw [HU3.out]; unfold pPut; rw [h5]; rfl
        clear ho5 h5
        go_wp2
        exact ⟨rfl, Out.error HP.out rfl, HKF.out⟩
      | ok z =>
        obtain ⟨rfl, hpr5⟩ := ho5.1 z h5
        have HP : Hid (pNode (tl S) (f + 1) (p, t) = .ok (z.2, (y.2, z.1))) := by show _ = _; rw [HU3.out]; unfold pPut; rw [h5]; rfl
        have HPF : Hid (PR w5 B b S y.2 z.1 bm F) := PR.narrow (w0 := w5) hpr5 (fun i hi => .inl hi)
        clear ho5 h5 hpr5
        go_wp2
        go_ret
        exact ⟨Out.ok HP.out ⟨rfl, HPF.out⟩, HKF.out⟩
  have hq118 : (((nx (tl S) p).toNat : Int) == 118) = false := by
    rw [beq_eq_false_iff_ne]
    intro e
    exact h118 (UInt8.toNat_inj.1 (by have : (118 : UInt8).toNat = 118 := rfl; omega))
  have HU : Hid (pNode (tl S) (f + 1) (p, t) = (pOp (tl S) p p).bind fun o => (pNums (tl S) o.1 p o.2).bind fun y => (pParts (tl S) (pNode (tl S) f) y.1 p (y.2, t)).bind fun z => pPut p z.2.1 z.2.2 { z.1 with w := pWid z.2.2 z.1 }) := by
    show _ = _
    conv => lhs; unfold pNode
    rw [if_neg (fun e => h35 ((nx_at (by decide)).2 e)), if_neg (fun e => h118 ((nx_at (by decide)).2 e))]
  clear h35 h118
  go_wp2_with fail
  refine (iOperator _ b S p v0 bm p (fun w' k => HG.out _ (HS1.out.kbF k)) HRB1.out hs1 hps).mono ?_
  rintro e w2 ⟨ho2, hk2⟩
  cases h2 : pOp (tl S) p p with
  | error x =>
    obtain rfl := ho2.2 x h2
    have HP : Hid (pNode (tl S) (f + 1) (p, t) = .error x) := by show _ = _; rw [HU.out, h2]; rfl
    have HKX : Hid (Kept (fun k => ¬ F k) w w2) := HS1.out.kbF hk2
    clear ho2 h2 hk2
    go_wp2
    exact ⟨rfl, Out.error HP.out rfl, HKX.out⟩
  | ok o =>
  obtain ⟨rfl, hr2, hp2⟩ := ho2.1 o h2
  have HS2 : Hid (St1 w w2 B b S o.2 t bm F bn ⟨0, 0, 0, 0, 0, 0⟩) := HS1.out.kb HRB1.out hr2 hp2 hk2
  have HU2 : Hid (pNode (tl S) (f + 1) (p, t) = (pNums (tl S) o.1 p o.2).bind fun y => (pParts (tl S) (pNode (tl S) f) y.1 p (y.2, t)).bind fun z => pPut p z.2.1 z.2.2 { z.1 with w := pWid z.2.2 z.1 }) := by show _ = _; rw [HU.out, h2]; rfl
  have HO : Hid (2 ≤ o.1 ∧ o.1 ≤ 20 ∧ p < o.2) := ⟨(op_le h2).1, (op_le h2).2, op_mono h2⟩
  clear ho2 h2 hk2 hr2
  obtain ⟨w3, hw3⟩ : ∃ w3 : World, w3 = w2.setCell ⟨bn, 0, none⟩ (.int .i64 (o.1 : Int)) := ⟨_, rfl⟩
  have HS3 : Hid (St1 w w3 B b S o.2 t bm F bn ⟨(o.1 : Int), 0, 0, 0, 0, 0⟩) := by
    show St1 _ _ _ _ _ _ _ _ _ _ _
    refine HS2.out.set ?_ ?_ HBN.out
    · rw [hw3]; exact (Kept.refl (fun i => i = bn) _).setCell (p := ⟨bn, 0, none⟩) rfl _
    · rw [hw3]; exact HS2.out.nw.setOp _
  have HW3 : Hid (w3 = w2.setCell ⟨bn, 0, none⟩ (.int .i64 (o.1 : Int))) := hw3
  have r0 := HS2.out.nw.c0
  have q0 := HS2.out.nw.f0
  have r1 := HS2.out.nw.c1
  have r2 := HS2.out.nw.c2
  have r3 := HS2.out.nw.c3
  have r4 := HS2.out.nw.c4
  have r5 := HS2.out.nw.c5
  obtain ⟨v3, hrb3, _, _⟩ := HS3.out.pr.ex
  have HRB3 : Hid (RB w3 b S o.2 v3 bm) := hrb3
  clear hw3 hrb3
  go_wp2_with fail
  rw [← HW3.out]
  clear r0 q0 r1 r2 r3 r4 r5
  refine (iNums _ b S o.2 v3 bm o.1 p (fun w' k => HG.out _ (HS3.out.kbF k)) HRB3.out hs1 hp2).mono ?_
  rintro e w4 ⟨ho4, hk4⟩
  cases h4 : pNums (tl S) o.1 p o.2 with
  | error x =>
    obtain rfl := ho4.2 x h4
    have HP : Hid (pNode (tl S) (f + 1) (p, t) = .error x) := by show _ = _; rw [HU2.out, h4]; rfl
    have HKX : Hid (Kept (fun k => ¬ F k) w w4) := HS3.out.kbF hk4
    clear ho4 h4 hk4
    go_wp2
    exact ⟨rfl, Out.error HP.out rfl, HKX.out⟩
  | ok y =>
  obtain ⟨rfl, hr4, hp4⟩ := ho4.1 y h4
  have HS4 : Hid (St1 w w4 B b S y.2 t bm F bn ⟨(o.1 : Int), 0, 0, 0, 0, 0⟩) := HS3.out.kb HRB3.out hr4 hp4 hk4
  have HU4 : Hid (pNode (tl S) (f + 1) (p, t) = (pParts (tl S) (pNode (tl S) f) y.1 p (y.2, t)).bind fun z => pPut p z.2.1 z.2.2 { z.1 with w := pWid z.2.2 z.1 }) := by show _ = _; rw [HU2.out, h4]; rfl
  have HNS : Hid (y.1.op = (o.1 : Int) ∧ Sm y.1) := nums_small h4
  have HOY : Hid (2 ≤ y.1.op ∧ y.1.op ≤ 20) := by have := (nums_small h4).1; have := HO.out; exact ⟨by omega, by omega⟩
  have HFU : Hid (S.size - y.2 ≤ f) := by show _ ≤ _; have := nums_mono h4; have := HO.out; omega
  clear ho4 h4 hk4 hr4
  go_wp2_with fail
  refine (iPartsR f HI.out _ B b S y.2 t bm (fun k => F k ∨ k = bn) y.1 p HS4.out.pr (fun k hk => .inl (HLOW.out k hk)) (fun w' k => HG0.out _ ((below_of HS4.out.kf HLOW.out HBw.out).trans k)) hs HFU.out HOY.out).mono ?_
  rintro e w5 ⟨ho5, hk5⟩
  cases h5 : pParts (tl S) (pNode (tl S) f) y.1 p (y.2, t) with
  | error x =>
    obtain rfl := ho5.2 x h5
    have HP : Hid (pNode (tl S) (f + 1) (p, t) = .error x) := by show _ = _; rw [HU4.out, h5]; rfl
    have HKX : Hid (Kept (fun k => ¬ F k) w w5) := HS4.out.partsF hk5
    clear ho5 h5 hk5
    go_wp2
    exact ⟨rfl, Out.error HP.out rfl, HKX.out⟩
  | ok z =>
  obtain ⟨rfl, hpr5⟩ := ho5.1 z h5
  have HS5 : Hid (St1 w w5 B b S z.2.1 z.2.2 bm F bn ⟨(o.1 : Int), 0, 0, 0, 0, 0⟩) := HS4.out.parts hpr5 hk5
  have HU5 : Hid (pNode (tl S) (f + 1) (p, t) = pPut p z.2.1 z.2.2 { z.1 with w := pWid z.2.2 z.1 }) := by show _ = _; rw [HU4.out, h5]; rfl
  have HL5 : Hid (z.2.2.length ≤ 80) := hpr5.fit.1
  have HPN : Hid (Pn y.1 z.1 z.2.2.length) := parts_read h5 HOY.out HNS.out.2 HL5.out
  have HWD : Hid (∀ j, j < z.2.2.length → 1 ≤ (nth z.2.2 j).w ∧ (nth z.2.2 j).w ≤ 8) := fun j hj => node_width (hpr5.fit.2 j hj)
  clear ho5 h5 hk5 hpr5
  obtain ⟨w6, hw6⟩ : ∃ w6 : World, w6 = setNode w5 bn 0 z.1 := ⟨_, rfl⟩
  have HS6 : Hid (St1 w w6 B b S z.2.1 z.2.2 bm F bn z.1) := by
    show St1 _ _ _ _ _ _ _ _ _ _ _
    refine HS5.out.set ?_ ?_ HBN.out
    · rw [hw6]; exact setNode_keptS rfl (Kept.refl _ _)
    · rw [hw6]; exact nw_ofNode (w' := w5) HS5.out.nw
  have HW6 : Hid (w6 = setNode w5 bn 0 z.1) := hw6
  have ⟨r0, r1, r2, r3, r4, r5, q0, q1, q2, q3, q4, q5⟩ := HS5.out.nw
  obtain ⟨v6, hrb6, hown6, _⟩ := HS6.out.pr.ex
  obtain ⟨a6, c6, rfl, hwn6⟩ := hown6.form
  have HRB6 : Hid (RB w6 b S z.2.1 (.slice a6 z.2.2.length c6) bm) := hrb6
  have HN6 : Hid (Nodes w6 a6 z.2.2) := hwn6.nodes
  clear hw6 hrb6 hown6 hwn6
  go_wp2_with fail
  have hWF := HW6.out
  simp only [setNode, Nat.zero_add] at hWF
  rw [← hWF]
  clear hWF r0 r1 r2 r3 r4 r5 q0 q1 q2 q3 q4 q5
  refine (iWidth _ b S z.2.1 a6 c6 bm z.2.2 z.1 HRB6.out HN6.out HL5.out HWD.out HPN.out.ha HPN.out.hb).mono ?_
  rintro e w7 ⟨rfl, hb7⟩
  have HS7 : Hid (St1 w w7 B b S z.2.1 z.2.2 bm F bn z.1) := HS6.out.below hb7
  clear hb7
  obtain ⟨w8, hw8⟩ : ∃ w8 : World, w8 = w7.setCell ⟨bn, 1, none⟩ (.int .i64 (pWid z.2.2 z.1)) := ⟨_, rfl⟩
  have HS8 : Hid (St1 w w8 B b S z.2.1 z.2.2 bm F bn { z.1 with w := pWid z.2.2 z.1 }) := by
    show St1 _ _ _ _ _ _ _ _ _ _ _
    refine HS7.out.set ?_ ?_ HBN.out
    · rw [hw8]; exact (Kept.refl (fun i => i = bn) _).setCell (p := ⟨bn, 1, none⟩) rfl _
    · rw [hw8]; exact HS7.out.nw.setW _
  have HW8 : Hid (w8 = w7.setCell ⟨bn, 1, none⟩ (.int .i64 (pWid z.2.2 z.1))) := hw8
  have r0 := HS7.out.nw.c0
  have r1 := HS7.out.nw.c1
  have q1 := HS7.out.nw.f1
  have r2 := HS7.out.nw.c2
  have r3 := HS7.out.nw.c3
  have r4 := HS7.out.nw.c4
  have r5 := HS7.out.nw.c5
  clear hw8
  go_wp2_with fail
  rw [← HW8.out]
  clear r0 r1 q1 r2 r3 r4 r5
  refine (iPut _ B b S z.2.1 z.2.2 bm (fun k => F k ∨ k = bn) { z.1 with w := pWid z.2.2 z.1 } p HS8.out.pr (wf_node HWD.out HL5.out HOY.out HPN.out HNS.out.2)).mono ?_
  rintro e w9 ⟨ho9, hk9⟩
  have HKF : Hid (Kept (fun k => ¬ F k) w w9) := HS8.out.partsF hk9
  clear hk9
  cases h9 : putL z.2.2 { z.1 with w := pWid z.2.2 z.1 } p with
  | error x =>
    obtain rfl := ho9.2 x h9
    have HP : Hid (pNode (tl S) (f + 1) (p, t) = .error x) := by show _ = _; rw [HU5.out]; unfold pPut; rw [h9]; rfl
    clear ho9 h9
    go_wp2
    exact ⟨rfl, Out.error HP.out rfl, HKF.out⟩
  | ok u =>
    obtain ⟨rfl, hpr9⟩ := ho9.1 u h9
    have HP : Hid (pNode (tl S) (f + 1) (p, t) = .ok (u.2, (z.2.1, u.1))) := by show _ = _; rw [HU5.out]; unfold pPut; rw [h9]; rfl
    have HPF : Hid (PR w9 B b S z.2.1 u.1 bm F) := PR.narrow (w0 := w9) hpr9 (fun i hi => .inl hi)
    clear ho9 h9 hpr9
    go_wp2
    go_ret
    exact ⟨Out.ok HP.out ⟨rfl, HPF.out⟩, HKF.out⟩

end Go.Proofs.YtmghkeahlhlclaaGreatDoor.Pr12

/- The program's ReadTerm, as it is to be. -/
namespace Go.Proofs.YtmghkeahlhlclaaGreatDoor.Pr13
open Go.RowKit
open Nd0 Nd3 Tm0 Tx0 Tx1 Ss0 Ss1 Tb0 Tb1 Px0 Pr4 Pr7 Pr12 Ic3
set_option linter.unusedVariables false

theorem iNodeAll : ∀ f, INode f := by
  intro f
  induction f with
  | zero => intro w B b S p t bm F h hlow hg hs hfu; omega
  | succ f ih => exact iNodeR f ih
theorem iReadTerm : IReadTerm := by
  intro w S hT hS
  refine (iReadP iNodeAll w S hT hS).mono ?_
  intro e w' h
  unfold PPost at h
  rw [Px3.read_same] at h
  exact h

end Go.Proofs.YtmghkeahlhlclaaGreatDoor.Pr13

/- A contract of a whole row, its tables and its world's shape handed on to the walk. -/
namespace Go.Proofs.YtmghkeahlhlclaaGreatDoor.Hs0
variable {H : Type} {enc : TypeId × Value → H}

theorem andShaped {C : Checked} {os : Os} {f : FuncId} {fn : Func} {s : ChangeSpec} {apart fresh handsOn again : Bool} {X : World → Array Value → Prop}
    (hX : ∀ (w w' : World) (args : Array Value), w.heap = w'.heap → X w args → X w' args)
    (own : ownKnob C.prog.godebug = none) (started : os.Started) (noInit : C.prog.inits.idxOf? f = none) (hfn : C.prog.funcs[f]? = some fn)
    (witness : ∃ (w : World) (tape : Tape) (i : Input), w.os = os ∧ (w.forCall tape i).Shaped C.prog ∧ i.vars = [] ∧ Input.okWide C.prog (w.forCall tape i) .any w.heap.size f i ∧
      ((s.pre enc C.prog fn [] apart (w.forCall tape i).memory i.args ∧ X (w.forCall tape i).memory i.args) ∧ sizedMet enc C.prog fn (OpenSpec.ofChange s) apart (w.forCall tape i).memory i.args) ∧ ({} : Assume).holds C.prog (lone (Frame.enter C.prog f i.args .normal) [] (w.forCall tape i)))
    (walk : ∀ (W : World) (base : Nat) (args : Array Value) (ds gs : List (DataW H)) (before : List MemPlace),
      (∀ (j : Nat) t v, fn.params[j]? = some t → args[j]? = some v → Value.okWide C.prog W .any base t v) →
      DataW.Whole enc C.prog fn.params.toList s.vars apart W args.toList ds gs before → X W args → W.ShapedOpen C.prog →
      Calls C.prog f args W fun e W' => ∃ v, e = .returned v ∧ s.post enc C.prog fn apart fresh handsOn again W args v W') :
    ReturnsInHanded {} C os f .any (fun w args => (s.pre enc C.prog fn [] apart w args ∧ X w args) ∧ sizedMet enc C.prog fn (OpenSpec.ofChange s) apart w args) (s.post enc C.prog fn apart fresh handsOn again) := by
  refine returnsInHanded_of_calls own started noInit witness ?_
  intro w tape i _ hsh _ hok hpre _
  obtain ⟨_, _, _, fn', hfn', _, _, _, _, hval⟩ := hok
  obtain rfl : fn' = fn := Option.some.inj (hfn'.symm.trans hfn)
  obtain ⟨⟨⟨ds, gs, before, hw, hc⟩, hx⟩, hz⟩ := hpre
  have hw' := DataW.Whole.of_heap (w' := w.forCall tape i) (by rfl) hw
  refine (walk (w.forCall tape i) w.heap.size i.args ds gs before hval hw' (hX (w.forCall tape i).memory (w.forCall tape i) _ rfl hx) hsh).mono fun e W' ⟨v, he, hp⟩ => ?_
  subst he
  exact ChangeSpec.post_blind hp

end Go.Proofs.YtmghkeahlhlclaaGreatDoor.Hs0
