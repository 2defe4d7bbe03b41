/- The program's numbers of any text; beginnings of texts. -/
import Derived.Test.YtficonkpbohpeaaDoorJn0
import Derived.Test.YtficonkpbohpeaaDoorZt0
namespace Go.Proofs.YtficonkpbohpeaaDoor.Jn3
open Go.RowKit
open Tx0 Zk0 Zt0 Jn0
open Ss0 (bs bs_size ret_str)
open Ss1 (tl tl_bs bs_tl tl_length tl_ext eqb)
open Tk0 (TabK itoa_dec)
set_option linter.unusedVariables false

theorem rn_range {d : List UInt8} (h : (rnP d).2 = true) : -9223372036854775808 ≤ (rnP d).1 ∧ (rnP d).1 ≤ 9223372036854775807 := by
  unfold rnP at *
  cases he : Lib.atoiAll d with
  | ok v =>
    simp only
    unfold Lib.atoiAll at he
    cases d with
    | nil => cases he
    | cons c r =>
      simp only at he
      split at he
      · cases he
      · cases he
      · split at he
        · cases he
        · split at he
          · cases he
          · simp only [Lib.NumEnd.ok.injEq] at he
            subst he
            split <;> omega
  | «syntax» => rw [he] at h; cases h
  | range => rw [he] at h; cases h
/-- strings.Cut at one byte. -/
theorem iCutB (c : UInt8) (S : ByteArray) (w : World) (hm : ∃ m, w.cell? ⟨1, 0, none⟩ = some (.int .i64 m)) (hs : S.size ≤ 100000000) :
    Calls Tryd.prog 44 #[.string S, .string ⟨#[c]⟩] w fun e w' => e = .returned (.tuple #[.string (bs (cutF c (tl S))), .string (bs (cutS c (tl S))), .bool (Lib.cut (tl S) [c]).2.2]) ∧ ∃ n, w' = w.drewN n := by
  obtain ⟨m, hm⟩ := hm
  refine (Tryd.strings_Cut S ⟨#[c]⟩ m w (by omega) hm).mono ?_
  rintro e w' ⟨rfl, n, rfl⟩
  refine ⟨?_, n, rfl⟩
  rw [← cut_one, ← cut_two]
  rfl
/-- strconv.Itoa of any number. -/
theorem iItoaA (n : Int) (h0 : -9223372036854775808 ≤ n) (h1 : n ≤ 9223372036854775807) (w : World) (hT : TabK w) :
    Calls Tryd.prog 32 #[.int .i64 n] w fun e w' => e = .returned (.string (bs (Lib.itoa n))) ∧ Below w.heap.size w w' := by
  refine (Tryd.strconv_Itoa n h0 h1 w hT.pow).mono ?_
  rintro e w' ⟨rfl, k, os, rfl⟩
  exact ⟨rfl, Lib.below_grow _ _ (Nat.le_refl _) k os⟩
/-- What shortNumber tells. -/
def ShP (d : List UInt8) (e : Ending) : Prop := ∃ x : Int, e = .returned (.tuple #[.int .i64 x, .bool (numL d).isSome]) ∧ ∀ k, numL d = some k → x = (k : Int)
theorem ShP.no {d : List UInt8} {x : Int} (h : numL d = none) : ShP d (.returned (.tuple #[.int .i64 x, .bool false])) := ⟨x, by rw [h]; rfl, fun k hk => by rw [h] at hk; cases hk⟩
theorem ShP.yes {d : List UInt8} {x : Int} {n : Nat} (h : numL d = some n) (hx : x = (n : Int)) : ShP d (.returned (.tuple #[.int .i64 x, .bool true])) := ⟨x, by rw [h]; rfl, fun k hk => by rw [h] at hk; cases hk; exact hx⟩
set_option maxRecDepth 100000 in
set_option maxHeartbeats 2000000 in
theorem iShortA (S : ByteArray) (w : World) (hT : TabZ w) (hs : S.size ≤ 100000000) :
    Calls Tryd.prog 45 #[.string S] w fun e w' => ShP (tl S) e ∧ Below w.heap.size w w' := by
  have hz : (tl S).length = S.size := tl_length S
  by_cases h9 : (9 : Int) < (S.size : Int)
  · have HN : Hid (numL (tl S) = none) := by show _ = _; unfold numL; rw [if_pos (.inr (by omega))]
    clear hz hT hs
    go_enter Tryd.func45, Tryd.ntmps45
    go_wp2
    go_ret2
    exact ⟨ShP.no HN.out, Below.refl _ _⟩
  have HQ := num_rn (d := tl S) (by omega)
  have HR := rn_range (d := tl S)
  have HA := iAtoi S w hT (by omega)
  have HT : Hid (TabZ w) := hT
  clear hz hT hs
  cases hb : (rnP (tl S)).2
  · have HN : Hid (numL (tl S) = none) := by
      show _ = _
      rw [HQ, if_neg (by rw [hb]; simp)]
    rw [hb] at HA
    have HA2 : Hid _ := HA
    clear HQ HR hb HA
    obtain ⟨x, hx⟩ : ∃ x, x = (rnP (tl S)).1 := ⟨_, rfl⟩
    rw [← hx] at HA2
    clear hx
    go_enter Tryd.func45, Tryd.ntmps45
    go_wp2_with fail
    refine Calls.mono HA2.out ?_
    rintro e w1 ⟨⟨ev, rfl, _, hev⟩, hb1⟩
    obtain ⟨N, rfl⟩ := hev (by trivial)
    have HB : Hid (Below w.heap.size w w1) := hb1
    clear hev hb1
    go_wp2
    go_ret2
    exact ⟨ShP.no HN.out, HB.out⟩
  rw [hb] at HA HQ
  have HR2 := HR hb
  have HA2 : Hid _ := HA
  obtain ⟨x, hx⟩ : ∃ x, x = (rnP (tl S)).1 := ⟨_, rfl⟩
  rw [← hx] at HA2 HQ HR2
  clear HR hb HA hx
  by_cases h0 : 0 ≤ x
  · have HI : Hid (∀ W, TabZ W → Calls Tryd.prog 32 #[.int .i64 x] W fun e w' => e = .returned (.string (bs (dec x.toNat))) ∧ Below W.heap.size W w') := fun W h => by
      have := iItoaA x HR2.1 HR2.2 W h.pow
      rw [show Lib.itoa x = dec x.toNat by rw [← itoa_dec]; congr 1; omega] at this
      exact this
    have HE : Hid (((bs (dec x.toNat)).toList == S.toList) = decide (dec x.toNat = tl S)) := by show _ = _; rw [eqb, tl_bs]
    have HF : Hid (ShP (tl S) (.returned (.tuple #[.int .i64 x, .bool (decide (dec x.toNat = tl S))]))) := by
      show ShP _ _
      by_cases hc : dec x.toNat = tl S
      · rw [decide_eq_true hc]
        refine ShP.yes (n := x.toNat) ?_ (by omega)
        rw [HQ, if_pos ⟨rfl, h0, hc⟩]
      · rw [decide_eq_false hc]
        refine ShP.no ?_
        rw [HQ, if_neg (fun h => hc h.2.2)]
    clear HQ HR2
    obtain ⟨D, hD⟩ : ∃ D, D = bs (dec x.toNat) := ⟨_, rfl⟩
    obtain ⟨bb, hbb⟩ : ∃ b, b = decide (dec x.toNat = tl S) := ⟨_, rfl⟩
    rw [← hD] at HI HE
    rw [← hbb] at HE HF
    clear hD hbb
    have hE := HE.out
    clear HE
    go_enter Tryd.func45, Tryd.ntmps45
    go_wp2_with fail
    refine Calls.mono HA2.out ?_
    rintro e w1 ⟨⟨ev, rfl, hev, _⟩, hb1⟩
    obtain rfl := hev (by trivial)
    have HB : Hid (Below w.heap.size w w1) := hb1
    clear hev hb1
    go_wp2_with fail
    refine (HI.out _ (HT.out.below HB.out)).mono ?_
    rintro e w2 ⟨rfl, hb2⟩
    have HB2 : Hid (Below w.heap.size w w2) := HB.out.trans (hb2.mono HB.out.size)
    clear hb2
    go_wp2
    go_ret2
    first | exact ⟨HF.out, HB2.out⟩ | exact ⟨by rw [hE]; exact HF.out, HB2.out⟩
  · have HN : Hid (numL (tl S) = none) := by show _ = _; rw [HQ, if_neg (fun h => h0 h.2.1)]
    clear HQ HR2
    go_enter Tryd.func45, Tryd.ntmps45
    go_wp2_with fail
    refine Calls.mono HA2.out ?_
    rintro e w1 ⟨⟨ev, rfl, hev, _⟩, hb1⟩
    obtain rfl := hev (by trivial)
    have HB : Hid (Below w.heap.size w w1) := hb1
    clear hev hb1
    go_wp2
    go_ret2
    exact ⟨ShP.no HN.out, HB.out⟩

/-- strings.HasPrefix of one byte. -/
theorem hp_of (T : ByteArray) (c : UInt8) : ((T.extract 0 1).toList == [c]) = decide ((tl T)[0]? = some c) := by
  have e : tl (T.extract 0 1) = (tl T).take 1 := by rw [tl_ext, List.drop_zero]
  rw [Bool.eq_iff_iff]
  rw [ByteArray.toList_eq]
  show (tl (T.extract 0 1) == [c]) = true ↔ _
  rw [e]
  cases tl T with
  | nil => simp
  | cons x r => simp
set_option maxRecDepth 100000 in
set_option maxHeartbeats 1000000 in
theorem hpS (T : ByteArray) (c : UInt8) (w : World) (hs : T.size ≤ 100000000) :
    Calls Tryd.prog 50 #[.string T, .string ⟨#[c]⟩] w fun e w' => e = .returned (.bool (decide ((tl T)[0]? = some c))) ∧ w' = w := by
  by_cases h0 : (1 : Int) ≤ (T.size : Int)
  · have HE : Hid (((T.extract 0 1).toList == [c]) = decide ((tl T)[0]? = some c)) := hp_of T c
    obtain ⟨b, hb⟩ : ∃ b, b = decide ((tl T)[0]? = some c) := ⟨_, rfl⟩
    rw [← hb] at HE ⊢
    clear hb
    have hE := HE.out
    go_enter Tryd.func50, Tryd.ntmps50
    go_wp2
    go_ret
    first | exact ⟨rfl, rfl⟩ | (rw [hE]; exact ⟨rfl, rfl⟩)
  · have HE : Hid (decide ((tl T)[0]? = some c) = false) := by
      show _ = _
      apply decide_eq_false
      have : tl T = [] := List.eq_nil_of_length_eq_zero (by rw [tl_length]; omega)
      rw [this]; simp
    rw [HE.out]
    go_enter Tryd.func50, Tryd.ntmps50
    go_wp2
    go_ret
    exact ⟨rfl, rfl⟩
set_option maxRecDepth 100000 in
set_option maxHeartbeats 1000000 in
theorem iHasP (T : ByteArray) (c : UInt8) (w : World) (hs : T.size ≤ 100000000) :
    Calls Tryd.prog 46 #[.string T, .string ⟨#[c]⟩] w fun e w' => e = .returned (.bool (decide ((tl T)[0]? = some c))) ∧ w' = w := by
  have HE : Hid _ := hpS T c w hs
  obtain ⟨b, hb⟩ : ∃ b, b = decide ((tl T)[0]? = some c) := ⟨_, rfl⟩
  rw [← hb] at HE ⊢
  clear hb
  go_enter Tryd.func46, Tryd.ntmps46
  go_wp2_with fail
  refine Calls.mono HE.out ?_
  rintro e w1 ⟨rfl, rfl⟩
  go_wp2
  go_ret
  exact ⟨rfl, rfl⟩
end Go.Proofs.YtficonkpbohpeaaDoor.Jn3
