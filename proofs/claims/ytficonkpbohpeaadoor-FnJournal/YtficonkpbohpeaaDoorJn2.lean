/- Record and Append of both. -/
import Derived.Test.YtficonkpbohpeaaDoorJn0
import Derived.Test.YtficonkpbohpeaaDoorTk0
namespace Go.Proofs.YtficonkpbohpeaaDoor.Jn2
open Go.RowKit
open Tx0
open Ss0 (bs bs_size bs_app ret_str sDec)
open Ss1 (tl tl_bs bs_tl tl_length)
open Tk0 (TabK itoa)
open Jn0
set_option linter.unusedVariables false

/-- What Record answers. -/
def rcd (S : ByteArray) : ByteArray := if S.size ≤ 400000 then bs (recT (tl S)) else ⟨#[]⟩
theorem rcd_text (S : ByteArray) : bs (dec S.size) ++ ⟨#[58]⟩ ++ S ++ ⟨#[59]⟩ = bs (recT (tl S)) := by
  have e1 : (⟨#[58]⟩ : ByteArray) = bs [58] := rfl
  have e2 : (⟨#[59]⟩ : ByteArray) = bs [59] := rfl
  have e3 : S = bs (tl S) := (bs_tl S).symm
  conv => lhs; rw [e1, e2]; arg 1; arg 2; rw [e3]
  rw [bs_app, bs_app, bs_app]
  unfold recT
  rw [tl_length]
  simp
theorem dec6 {n : Nat} (h : n ≤ 400000) : (bs (dec n)).size ≤ 6 := by rw [bs_size]; exact (Zk0.dec_len' (k := 6) (by omega) (by omega)).2
set_option maxRecDepth 100000 in
set_option maxHeartbeats 1000000 in
theorem sRecord (S : ByteArray) (w : World) (hs : S.size ≤ maxLen) :
    Calls Tryd.prog 21 #[.string S] w fun e w' => e = .returned (.string (rcd S)) ∧ w' = w := by
  by_cases h4 : (400000 : Int) < (S.size : Int)
  · have HE : Hid (rcd S = ⟨#[]⟩) := by show _ = _; unfold rcd; rw [if_neg (by omega)]
    go_enter Tryd.func21, Tryd.ntmps21
    go_wp2
    go_ret
    exact ⟨ret_str HE.out.symm, rfl⟩
  · have HE : Hid (bs (dec S.size) ++ ⟨#[58]⟩ ++ S ++ ⟨#[59]⟩ = rcd S) := by show _ = _; unfold rcd; rw [if_pos (by omega), rcd_text]
    have HD : Hid _ := sDec S.size w (by omega)
    have hd6 := dec6 (n := S.size) (by omega)
    obtain ⟨D, hD⟩ : ∃ D, D = bs (dec S.size) := ⟨_, rfl⟩
    rw [← hD] at HE HD hd6
    clear hD hs
    go_enter Tryd.func21, Tryd.ntmps21
    go_wp2_with fail
    refine Calls.mono HD.out ?_
    rintro e w1 ⟨rfl, rfl⟩
    go_wp2
    go_ret
    exact ⟨ret_str HE.out, rfl⟩
set_option maxRecDepth 100000 in
set_option maxHeartbeats 1000000 in
theorem iRecord (S : ByteArray) (w : World) (hs : S.size ≤ maxLen) (hT : TabK w) :
    Calls Tryd.prog 17 #[.string S] w fun e w' => e = .returned (.string (rcd S)) ∧ Below w.heap.size w w' := by
  by_cases h4 : (400000 : Int) < (S.size : Int)
  · have HE : Hid (rcd S = ⟨#[]⟩) := by show _ = _; unfold rcd; rw [if_neg (by omega)]
    clear hT
    go_enter Tryd.func17, Tryd.ntmps17
    go_wp2
    go_ret
    exact ⟨ret_str HE.out.symm, Below.refl _ _⟩
  · have HE : Hid (bs (dec S.size) ++ ⟨#[58]⟩ ++ S ++ ⟨#[59]⟩ = rcd S) := by show _ = _; unfold rcd; rw [if_pos (by omega), rcd_text]
    have HD : Hid _ := itoa S.size (by omega) w hT
    have hd6 := dec6 (n := S.size) (by omega)
    obtain ⟨D, hD⟩ : ∃ D, D = bs (dec S.size) := ⟨_, rfl⟩
    rw [← hD] at HE HD hd6
    clear hD hs hT
    go_enter Tryd.func17, Tryd.ntmps17
    go_wp2_with fail
    refine Calls.mono HD.out ?_
    rintro e w1 ⟨rfl, hb⟩
    have HB : Hid (Below w.heap.size w w1) := hb
    clear hb
    go_wp2
    go_ret
    exact ⟨ret_str HE.out, HB.out⟩

/-- What Append answers. -/
def apB (J S : ByteArray) : Bool := decide (S.size ≤ 400000 ∧ J.size + (recT (tl S)).length ≤ 2000000)
def apd (J S : ByteArray) : ByteArray := if apB J S = true then J ++ bs (recT (tl S)) else J
theorem ret_sb {a b : ByteArray} {x y : Bool} (h : a = b) (h2 : x = y) : Ending.returned (.tuple #[.string a, .bool x]) = .returned (.tuple #[.string b, .bool y]) := by rw [h, h2]
theorem ap_big {J S : ByteArray} (h : ¬ S.size ≤ 400000) : apB J S = false ∧ apd J S = J := by
  have : apB J S = false := by unfold apB; exact decide_eq_false (fun hh => h hh.1)
  exact ⟨this, by unfold apd; rw [this]; rfl⟩
theorem ap_full {J S : ByteArray} (h : ¬ J.size + (recT (tl S)).length ≤ 2000000) : apB J S = false ∧ apd J S = J := by
  have : apB J S = false := by unfold apB; exact decide_eq_false (fun hh => h hh.2)
  exact ⟨this, by unfold apd; rw [this]; rfl⟩
theorem ap_yes {J S : ByteArray} (h : S.size ≤ 400000) (h2 : J.size + (recT (tl S)).length ≤ 2000000) : apB J S = true ∧ apd J S = J ++ bs (recT (tl S)) := by
  have : apB J S = true := by unfold apB; exact decide_eq_true ⟨h, h2⟩
  exact ⟨this, by unfold apd; rw [this]; rfl⟩
set_option maxRecDepth 100000 in
set_option maxHeartbeats 2000000 in
theorem sAppend (J S : ByteArray) (w : World) (hj : J.size ≤ 100000000) (hs : S.size ≤ maxLen) :
    Calls Tryd.prog 22 #[.string J, .string S] w fun e w' => e = .returned (.tuple #[.string (apd J S), .bool (apB J S)]) ∧ w' = w := by
  have HR : Hid _ := sRecord S w hs
  by_cases h4 : S.size ≤ 400000
  · have e1 : rcd S = bs (recT (tl S)) := by unfold rcd; rw [if_pos h4]
    have hl : (bs (recT (tl S))).size = (recT (tl S)).length := bs_size _
    have hne : ((bs (recT (tl S))).toList == []) = false := Ss1.eql_false (by rw [tl_bs]; intro e; have := recT_len (tl S); rw [e] at this; simp at this)
    have hle : (bs (recT (tl S))).size ≤ 400008 := by
      have := dec6 h4
      rw [bs_size] at this
      rw [hl, recT_len, tl_length]; omega
    rw [e1] at HR
    by_cases h2 : J.size + (recT (tl S)).length ≤ 2000000
    · have HE : Hid (apB J S = true) := (ap_yes h4 h2).1
      have HE2 : Hid (apd J S = J ++ bs (recT (tl S))) := (ap_yes h4 h2).2
      have h2z : ¬ (2000000 : Int) < (J.size : Int) + ((bs (recT (tl S))).size : Int) := by rw [hl]; omega
      clear hl e1 h2 h4
      obtain ⟨D, hD⟩ : ∃ D, D = bs (recT (tl S)) := ⟨_, rfl⟩
      rw [← hD] at HR HE2 hne h2z hle
      clear hD
      go_enter Tryd.func22, Tryd.ntmps22
      go_wp2_with fail
      refine Calls.mono HR.out ?_
      rintro e w1 ⟨rfl, rfl⟩
      go_wp2
      go_ret2
      exact ⟨ret_sb HE2.out.symm HE.out.symm, rfl⟩
    · have HE : Hid (apB J S = false) := (ap_full h2).1
      have HE2 : Hid (apd J S = J) := (ap_full h2).2
      have h2z : (2000000 : Int) < (J.size : Int) + ((bs (recT (tl S))).size : Int) := by rw [hl]; omega
      clear hl e1 h2 h4
      obtain ⟨D, hD⟩ : ∃ D, D = bs (recT (tl S)) := ⟨_, rfl⟩
      rw [← hD] at HR hne h2z hle
      clear hD
      go_enter Tryd.func22, Tryd.ntmps22
      go_wp2_with fail
      refine Calls.mono HR.out ?_
      rintro e w1 ⟨rfl, rfl⟩
      go_wp2
      go_ret2
      exact ⟨ret_sb HE2.out.symm HE.out.symm, rfl⟩
  · have HE : Hid (apB J S = false) := (ap_big h4).1
    have HE2 : Hid (apd J S = J) := (ap_big h4).2
    have e1 : rcd S = ⟨#[]⟩ := by unfold rcd; rw [if_neg h4]
    rw [e1] at HR
    clear e1
    go_enter Tryd.func22, Tryd.ntmps22
    go_wp2_with fail
    refine Calls.mono HR.out ?_
    rintro e w1 ⟨rfl, rfl⟩
    go_wp2
    go_ret2
    exact ⟨ret_sb HE2.out.symm HE.out.symm, rfl⟩
set_option maxRecDepth 100000 in
set_option maxHeartbeats 2000000 in
theorem iAppend (J S : ByteArray) (w : World) (hj : J.size ≤ 100000000) (hs : S.size ≤ maxLen) (hT : TabK w) :
    Calls Tryd.prog 15 #[.string J, .string S] w fun e w' => e = .returned (.tuple #[.string (apd J S), .bool (apB J S)]) ∧ Below w.heap.size w w' := by
  have HR : Hid _ := iRecord S w hs hT
  by_cases h4 : S.size ≤ 400000
  · have e1 : rcd S = bs (recT (tl S)) := by unfold rcd; rw [if_pos h4]
    have hl : (bs (recT (tl S))).size = (recT (tl S)).length := bs_size _
    have hne : ((bs (recT (tl S))).toList == []) = false := Ss1.eql_false (by rw [tl_bs]; intro e; have := recT_len (tl S); rw [e] at this; simp at this)
    have hle : (bs (recT (tl S))).size ≤ 400008 := by
      have := dec6 h4
      rw [bs_size] at this
      rw [hl, recT_len, tl_length]; omega
    rw [e1] at HR
    by_cases h2 : J.size + (recT (tl S)).length ≤ 2000000
    · have HE : Hid (apB J S = true) := (ap_yes h4 h2).1
      have HE2 : Hid (apd J S = J ++ bs (recT (tl S))) := (ap_yes h4 h2).2
      have h2z : ¬ (2000000 : Int) < (J.size : Int) + ((bs (recT (tl S))).size : Int) := by rw [hl]; omega
      clear hl e1 h2 h4
      obtain ⟨D, hD⟩ : ∃ D, D = bs (recT (tl S)) := ⟨_, rfl⟩
      rw [← hD] at HR HE2 hne h2z hle
      clear hD
      go_enter Tryd.func15, Tryd.ntmps15
      go_wp2_with fail
      refine Calls.mono HR.out ?_
      rintro e w1 ⟨rfl, hb⟩
      have HB : Hid (Below w.heap.size w w1) := hb
      clear hb
      go_wp2
      go_ret2
      exact ⟨ret_sb HE2.out.symm HE.out.symm, HB.out⟩
    · have HE : Hid (apB J S = false) := (ap_full h2).1
      have HE2 : Hid (apd J S = J) := (ap_full h2).2
      have h2z : (2000000 : Int) < (J.size : Int) + ((bs (recT (tl S))).size : Int) := by rw [hl]; omega
      clear hl e1 h2 h4
      obtain ⟨D, hD⟩ : ∃ D, D = bs (recT (tl S)) := ⟨_, rfl⟩
      rw [← hD] at HR hne h2z hle
      clear hD
      go_enter Tryd.func15, Tryd.ntmps15
      go_wp2_with fail
      refine Calls.mono HR.out ?_
      rintro e w1 ⟨rfl, hb⟩
      have HB : Hid (Below w.heap.size w w1) := hb
      clear hb
      go_wp2
      go_ret2
      exact ⟨ret_sb HE2.out.symm HE.out.symm, HB.out⟩
  · have HE : Hid (apB J S = false) := (ap_big h4).1
    have HE2 : Hid (apd J S = J) := (ap_big h4).2
    have e1 : rcd S = ⟨#[]⟩ := by unfold rcd; rw [if_neg h4]
    rw [e1] at HR
    clear e1
    go_enter Tryd.func15, Tryd.ntmps15
    go_wp2_with fail
    refine Calls.mono HR.out ?_
    rintro e w1 ⟨rfl, hb⟩
    have HB : Hid (Below w.heap.size w w1) := hb
    clear hb
    go_wp2
    go_ret2
    exact ⟨ret_sb HE2.out.symm HE.out.symm, HB.out⟩
end Go.Proofs.YtficonkpbohpeaaDoor.Jn2
