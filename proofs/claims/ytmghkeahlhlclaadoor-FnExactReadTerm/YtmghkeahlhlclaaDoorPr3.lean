/- The walks of the program's reader: pairs of numbers, and what stands between an operator and its parts. -/
import Derived.Test.YtmghkeahlhlclaaDoorPr2
namespace Go.Proofs.YtmghkeahlhlclaaDoor.Pr3
open Go.RowKit
open Nd0 Nd3 Tm0 Tx0 Tx1 Ss0 Ss1 Tb0 Tb1 Px0 Pr1 Pr2
open Ss5 (Kb)
set_option linter.unusedVariables false

set_option maxHeartbeats 2000000 in
theorem iPairR (w : World) (b : Nat) (S : ByteArray) (p : Nat) (v : Value) (bm : Nat) (c : UInt8) (st : Nat) (hg : ∀ w', Kb b w w' → TabR w') (h : RB w b S p v bm) (hs : S.size ≤ 100000) (hp : p ≤ S.size) :
    Calls Tryd.prog 44 #[.pointer (some ⟨b, 0, none⟩), .int .u8 (c.toNat : Int), .int .i64 st] w fun e w' => Out (pPair (tl S) c st p) (fun y => e = .returned (.tuple #[.int .i64 (y.1.1 : Int), .int .i64 (y.1.2 : Int)]) ∧ RB w' b S y.2 v bm ∧ y.2 ≤ S.size) (fun x => e = .panicked [fl x]) ∧ Kb b w w' := by
  have H : Hid (RB w b S p v bm) := h
  have HG : Hid (∀ w', Kb b w w' → TabR w') := hg
  clear h hg
  go_enter Tryd.func44, Tryd.ntmps44
  go_wp2_with fail
  refine (iNeed _ b S p v bm c st H.out hs hp).mono ?_
  rintro e w1 ⟨ho1, hk1⟩
  have HK1 : Hid (Kb b w w1) := hk1
  clear hk1
  cases h1 : pNeed (tl S) c st p with
  | error x =>
    obtain rfl := ho1.2 x h1
    have HP : Hid (pPair (tl S) c st p = .error x) := by show _ = _; unfold pPair; rw [h1]; rfl
    clear ho1 h1
    go_wp2
    exact ⟨rfl, Out.error HP.out rfl, HK1.out⟩
  | ok p1 =>
    obtain ⟨rfl, hr1, hp1⟩ := ho1.1 p1 h1
    have H1 : Hid (RB w1 b S p1 v bm) := hr1
    have HP1 : Hid (pNeed (tl S) c st p = .ok p1) := h1
    clear ho1 h1 hr1
    go_wp2_with fail
    refine (iNumber _ b S p1 v bm st (HG.out _ HK1.out) (fun w' k => HG.out _ (HK1.out.trans k)) H1.out hs hp1).mono ?_
    rintro e w2 ⟨ho2, hk2⟩
    have HK2 : Hid (Kb b w w2) := HK1.out.trans hk2
    clear hk2
    cases h2 : pNum (tl S) st p1 with
    | error x =>
      obtain rfl := ho2.2 x h2
      have HP : Hid (pPair (tl S) c st p = .error x) := by show _ = _; unfold pPair; rw [HP1.out]; simp only [Except.bind]; rw [h2]
      clear ho2 h2
      go_wp2
      exact ⟨rfl, Out.error HP.out rfl, HK2.out⟩
    | ok y1 =>
      obtain ⟨rfl, hr2, hp2⟩ := ho2.1 y1 h2
      have H2 : Hid (RB w2 b S y1.2 v bm) := hr2
      have HP2 : Hid (pNum (tl S) st p1 = .ok y1) := h2
      clear ho2 h2 hr2
      go_wp2_with fail
      refine (iNeed _ b S y1.2 v bm 58 st H2.out hs hp2).mono ?_
      rintro e w3 ⟨ho3, hk3⟩
      have HK3 : Hid (Kb b w w3) := HK2.out.trans hk3
      clear hk3
      cases h3 : pNeed (tl S) 58 st y1.2 with
      | error x =>
        obtain rfl := ho3.2 x h3
        have HP : Hid (pPair (tl S) c st p = .error x) := by show _ = _; unfold pPair; rw [HP1.out]; simp only [Except.bind]; rw [HP2.out]; simp only; rw [h3]
        clear ho3 h3
        go_wp2
        exact ⟨rfl, Out.error HP.out rfl, HK3.out⟩
      | ok p3 =>
        obtain ⟨rfl, hr3, hp3⟩ := ho3.1 p3 h3
        have H3 : Hid (RB w3 b S p3 v bm) := hr3
        have HP3 : Hid (pNeed (tl S) 58 st y1.2 = .ok p3) := h3
        clear ho3 h3 hr3
        go_wp2_with fail
        refine (iNumber _ b S p3 v bm st (HG.out _ HK3.out) (fun w' k => HG.out _ (HK3.out.trans k)) H3.out hs hp3).mono ?_
        rintro e w4 ⟨ho4, hk4⟩
        have HK4 : Hid (Kb b w w4) := HK3.out.trans hk4
        clear hk4
        cases h4 : pNum (tl S) st p3 with
        | error x =>
          obtain rfl := ho4.2 x h4
          have HP : Hid (pPair (tl S) c st p = .error x) := by show _ = _; unfold pPair; rw [HP1.out]; simp only [Except.bind]; rw [HP2.out]; simp only; rw [HP3.out]; simp only; rw [h4]
          clear ho4 h4
          go_wp2
          exact ⟨rfl, Out.error HP.out rfl, HK4.out⟩
        | ok y2 =>
          obtain ⟨rfl, hr4, hp4⟩ := ho4.1 y2 h4
          have H4 : Hid (RB w4 b S y2.2 v bm) := hr4
          have HP4 : Hid (pNum (tl S) st p3 = .ok y2) := h4
          clear ho4 h4 hr4
          go_wp2_with fail
          refine (iEnd _ b S y2.2 v bm st H4.out hs hp4).mono ?_
          rintro e w5 ⟨ho5, m, rfl⟩
          cases h5 : pEnd (tl S) st y2.2 with
          | error x =>
            obtain rfl := ho5.2 x h5
            have HP : Hid (pPair (tl S) c st p = .error x) := by show _ = _; unfold pPair; rw [HP1.out]; simp only [Except.bind]; rw [HP2.out]; simp only; rw [HP3.out]; simp only; rw [HP4.out]; simp only; rw [h5]
            clear ho5 h5
            go_wp2
            exact ⟨rfl, Out.error HP.out rfl, HK4.out.drewN _⟩
          | ok q =>
            obtain ⟨rfl, rfl⟩ := ho5.1 q h5
            have HP : Hid (pPair (tl S) c st p = .ok ((y1.1, y2.1), y2.2)) := by show _ = _; unfold pPair; rw [HP1.out]; simp only [Except.bind]; rw [HP2.out]; simp only; rw [HP3.out]; simp only; rw [HP4.out]; simp only; rw [h5]
            clear ho5 h5
            go_wp2
            go_ret2
            exact ⟨Out.ok HP.out ⟨rfl, H4.out.drewN _, hp4⟩, HK4.out.drewN _⟩

end Go.Proofs.YtmghkeahlhlclaaDoor.Pr3
