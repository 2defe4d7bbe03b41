/- Small texts of mine, one behind the other. -/
import Derived.Deep.RegionHeld
import Derived.Test.YtmghkeahlhlclaaDoorPr2
import Derived.Test.YtmghkeahlhlclaaDoorPx1
import Derived.Test.YtmghkeahlhlclaaDoorShelf2
/- The walk of the program's reader: the operator of a word. -/
namespace Go.Proofs.YtmghkeahlhlclaaDoor.Pr10
open Go.RowKit
open Nd0 Nd3 Tm0 Tx0 Tx1 Tx5 Ss0 Ss1 Tb0 Tb1 Px0 Px1 Pr1 Pr2
set_option linter.unusedVariables false

set_option maxRecDepth 100000 in
set_option maxHeartbeats 2000000 in
theorem iOpOf (w : World) (W : ByteArray) (h : Tabs w) :
    Calls Tryd.prog 68 #[.string W] w fun e w' => e = .returned (.tuple #[.int .i64 (((opP (tl W)).getD 0 : Nat) : Int), .bool (opP (tl W)).isSome]) ∧ Below w.heap.size w w' := by
  have H : Hid (Tabs w) := h
  clear h
  go_enter Tryd.func68, Tryd.ntmps68
  go_wp2_with fail
  go_loopw [4] (fun q wr => ∃ k : Nat, 2 ≤ k ∧ k ≤ 21 ∧ q = .int .i64 k ∧ wr = w ∧ ∀ j, 2 ≤ j → j < k → opTab.getD j [] ≠ tl W) (fun q _ => 21 - (intOf q).toNat)
  case atStart => exact ⟨2, Nat.le_refl _, by omega, rfl, rfl, fun j h1 h2 => by omega⟩
  case round =>
    obtain ⟨k, hk2, hk21, rfl, rfl, hn⟩ := hrel
    have HNO : Hid (∀ j, 2 ≤ j → j < k → opTab.getD j [] ≠ tl W) := hn
    clear hn
    by_cases hlt : k ≤ 20
    · have hkz : (k : Int) ≤ 20 := by omega
      have hkz2 : (k : Int) < 21 := by omega
      have hc := H.out.ops k (by omega)
      obtain ⟨X, hX⟩ : ∃ X, opTab.getD k [] = X := ⟨_, rfl⟩
      rw [hX] at hc
      have HX : Hid (opTab.getD k [] = X) := hX
      clear hX
      by_cases he : X = tl W
      · have hq : ((bs X).toList == W.toList) = true := eqb_true (by rw [tl_bs]; exact he)
        have HE : Hid (opP (tl W) = some k) := opP_at hk2 hlt (by rw [HX.out]; exact he) HNO.out
        clear he
        go_wp2
        refine bodyPost_ret (v := .tuple #[.int .i64 (k : Int), .bool true]) (by simp [results, Tryd.results68, go_sem]) rfl ⟨by rw [HE.out]; rfl, Below.refl _ _⟩
      · have hq : ((bs X).toList == W.toList) = false := eqb_false (by rw [tl_bs]; exact he)
        have HN2 : Hid (∀ j, 2 ≤ j → j < k + 1 → opTab.getD j [] ≠ tl W) := fun j h1 h2 => by
          by_cases hj : j = k
          · subst hj; rw [HX.out]; exact he
          · exact HNO.out j h1 (by omega)
        clear he
        go_wp2
        go_roundw
        case rel => exact ⟨k + 1, by omega, by omega, by go_num, trivial, HN2.out⟩
        case measure => simp [intOf]; omega
    · have hkz : ¬ (k : Int) ≤ 20 := by omega
      have hk : k = 21 := by omega
      have HE : Hid (opP (tl W) = none) := opP_none (fun j h1 h2 => HNO.out j h1 (by omega))
      clear hk
      go_wp2
      refine bodyPost_ret (v := .tuple #[.int .i64 0, .bool false]) (by simp [results, Tryd.results68, go_sem]) rfl ⟨by rw [HE.out]; rfl, Below.refl _ _⟩

end Go.Proofs.YtmghkeahlhlclaaDoor.Pr10

/- The walk of the program's reader: the operator of a node. -/
namespace Go.Proofs.YtmghkeahlhlclaaDoor.Pr11
open Go.RowKit
open Nd0 Nd3 Tm0 Tx0 Tx1 Tx5 Ss0 Ss1 Tb0 Tb1 Px0 Pr1 Pr2 Pr10
open Ss5 (Kb)
open Ss3 (kept_set)
set_option linter.unusedVariables false

theorem cut_at (s : List UInt8) : (if 0 ≤ Lib.index s [32] then s.take (Lib.index s [32]).toNat else s) = s.takeWhile (fun c => c != 32) := by
  induction s with
  | nil => simp [Lib.index]
  | cons c l ih =>
    by_cases h : c = 32
    · subst h
      have e : Lib.index (32 :: l) [32] = 0 := by unfold Lib.index; rw [if_pos (by simp [List.isPrefixOf])]
      rw [e]; simp
    · rw [List.takeWhile_cons_of_pos (by simp [h]), ← ih]
      have e : Lib.index (c :: l) [32] = if Lib.index l [32] == -1 then -1 else Lib.index l [32] + 1 := by
        conv => lhs; unfold Lib.index
        rw [if_neg (by simp [List.isPrefixOf]; exact fun z => h z.symm)]
      have hg := Lib.index_ge l [32]
      by_cases e1 : Lib.index l [32] = -1
      · rw [e, e1]; simp
      · have h0 : 0 ≤ Lib.index l [32] := by omega
        have e2 : Lib.index (c :: l) [32] = Lib.index l [32] + 1 := by rw [e, if_neg (by simpa using e1)]
        rw [e2, if_pos (by omega), if_pos h0, show (Lib.index l [32] + 1).toNat = (Lib.index l [32]).toNat + 1 by omega, List.take_succ_cons]
theorem cut_one (s : List UInt8) : (Lib.cut s [32]).1 = s.takeWhile (fun c => c != 32) := by
  rw [← cut_at]
  unfold Lib.cut
  split <;> rfl

/-- What strings.Cut at a blank leaves. -/
def cutX (S : ByteArray) : ByteArray := ⟨(Lib.cut S.data.toList [32]).1.toArray⟩
def cutY (S : ByteArray) : ByteArray := ⟨(Lib.cut S.data.toList [32]).2.1.toArray⟩
def cutB (S : ByteArray) : Bool := (Lib.cut S.data.toList [32]).2.2
theorem cutX_tl (S : ByteArray) : tl (cutX S) = (tl S).takeWhile (fun c => c != 32) := by
  rw [← cut_one]; rfl
theorem iCut (S : ByteArray) (w : World) (hm : ∃ m, w.cell? ⟨2, 0, none⟩ = some (.int .i64 m)) (hs : S.size ≤ 100000) :
    Calls Tryd.prog 67 #[.string S, .string ⟨#[32]⟩] w fun e w' => e = .returned (.tuple #[.string (cutX S), .string (cutY S), .bool (cutB S)]) ∧ ∃ n, w' = w.drewN n := by
  obtain ⟨m, hm⟩ := hm
  exact Tryd.strings_Cut S ⟨#[32]⟩ m w (by omega) hm

theorem kb_below {b : Nat} {w w2 w3 : World} (h : Kb b w w2) (k : Below w2.heap.size w2 w3) : Kb b w w3 :=
  ⟨k.os.trans h.os, k.tape.trans h.tape, k.output.trans h.output, Nat.le_trans h.size k.size, fun i hi hn => by rw [k.block i (Nat.lt_of_lt_of_le hi h.size), h.block i hi hn]⟩
set_option maxRecDepth 100000 in
set_option maxHeartbeats 4000000 in
theorem iOperator (w : World) (b : Nat) (S : ByteArray) (p : Nat) (v : Value) (bm : Nat) (st : Nat) (hg : ∀ w', Kb b w w' → TabR w') (h : RB w b S p v bm) (hs : S.size ≤ 100000) (hp : p ≤ S.size) :
    Calls Tryd.prog 45 #[.pointer (some ⟨b, 0, none⟩), .int .i64 st] w fun e w' => Out (pOp (tl S) st p) (fun y => e = .returned (.int .i64 (y.1 : Int)) ∧ RB w' b S y.2 v bm ∧ y.2 ≤ S.size) (fun x => e = .panicked [fl x]) ∧ Kb b w w' := by
  have H : Hid (RB w b S p v bm) := h
  have HG : Hid (∀ w', Kb b w w' → TabR w') := hg
  clear h hg
  go_enter Tryd.func45, Tryd.ntmps45
  go_wp2_with fail
  refine (iNeed _ b S p v bm 40 st H.out hs hp).mono ?_
  rintro e w1 ⟨ho1, hk1⟩
  have HK1 : Hid (Kb b w w1) := hk1
  clear hk1
  cases h1 : pNeed (tl S) 40 st p with
  | error x =>
    obtain rfl := ho1.2 x h1
    have HP : Hid (pOp (tl S) st p = .error x) := by show _ = _; unfold pOp; rw [h1]; rfl
    clear ho1 h1
    go_wp2
    exact ⟨rfl, Out.error HP.out rfl, HK1.out⟩
  | ok p1 =>
    obtain ⟨rfl, hr1, hp1⟩ := ho1.1 p1 h1
    have H1 : Hid (RB w1 b S p1 v bm) := hr1
    have HP1 : Hid (pNeed (tl S) 40 st p = .ok p1) := h1
    clear ho1 h1 hr1
    have hpz : (p1 : Int) ≤ (S.size : Int) := by omega
    have hmx := (HG.out _ HK1.out).max
    have HMX : Hid (∃ m, w1.cell? ⟨2, 0, none⟩ = some (.int .i64 m)) := hmx
    have HSZ : Hid ((S.extract p1 S.size).size ≤ 100000) := by show _ ≤ _; rw [ByteArray.size_extract]; omega
    have HWD : Hid (tl (cutX (S.extract p1 S.size)) = pWord (tl S) p1) := by
      show _ = _
      rw [cutX_tl, tl_ext, List.take_of_length_le (by rw [tl_length]; exact Nat.le_refl _)]
      rfl
    clear hmx
    have c0 := H1.out.c0
    have c1 := H1.out.c1
    go_wp2_with fail
    go_quiet ((go_at_call 67; exact Calls.quiet_of (iCut _ _ HMX.out HSZ.out)))
    obtain ⟨X, hX⟩ : ∃ X, cutX (S.extract p1 S.size) = X := ⟨_, rfl⟩
    have HXW : Hid (tl X = pWord (tl S) p1) := by show _ = _; rw [← hX]; exact HWD.out
    have HXS : Hid (X.size = (pWord (tl S) p1).length) := by show _ = _; rw [← HXW.out, tl_length]
    have HXL : Hid (p1 + (pWord (tl S) p1).length ≤ S.size) := by
      show _ ≤ _
      have h1 := (List.takeWhile_sublist (fun c : UInt8 => c != 32) (l := (tl S).drop p1)).length_le
      rw [List.length_drop, tl_length] at h1
      unfold pWord
      omega
    have H2 : Hid (RB (w1.drewN nq) b S p1 v bm) := H1.out.drewN _
    have HK2 : Hid (Kb b w (w1.drewN nq)) := HK1.out.drewN _
    generalize w1.drewN nq = w2 at H2 HK2
    rw [hX]
    clear hX c0 c1
    have hxz : (p1 : Int) + (X.size : Int) ≤ 100000 := by have := HXS.out; have := HXL.out; omega
    have hxz0 : (0 : Int) ≤ (p1 : Int) + (X.size : Int) := by omega
    go_wp2_with fail
    refine (iOpOf _ _ (HG.out _ HK2.out).tabs).mono ?_
    rw [HXW.out]
    rintro e w3 ⟨rfl, hb3⟩
    have H3 : Hid (RB w3 b S p1 v bm) := H2.out.below hb3
    have HK3 : Hid (Kb b w w3) := kb_below HK2.out hb3
    have m1 := H3.out.c1
    have g1 := H3.out.f1
    clear hb3
    cases ho : opP (pWord (tl S) p1) with
    | none =>
      have HP : Hid (pOp (tl S) st p = .error (2, st)) := by show _ = _; unfold pOp; rw [HP1.out]; simp only [Except.bind]; rw [ho]
      clear ho
      simp only [Option.getD_none, Option.isSome_none]
      go_wp2_with fail
      refine (iFail _ _ _).mono ?_
      rintro e w' ⟨rfl, rfl⟩
      go_wp2
      exact ⟨rfl, Out.error HP.out rfl, HK3.out⟩
    | some o =>
      have HP : Hid (pOp (tl S) st p = .ok (o, p1 + (pWord (tl S) p1).length)) := by show _ = _; unfold pOp; rw [HP1.out]; simp only [Except.bind]; rw [ho]
      clear ho
      simp only [Option.getD_some, Option.isSome_some]
      go_wp2
      go_ret
      refine ⟨Out.ok HP.out ⟨rfl, H3.out.move _ _ ?_, HXL.out⟩, kept_set HK3.out _⟩
      have := HXS.out
      omega

end Go.Proofs.YtmghkeahlhlclaaDoor.Pr11
