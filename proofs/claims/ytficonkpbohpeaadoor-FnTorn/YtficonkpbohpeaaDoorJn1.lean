/- A text cut off: Torn of both. -/
import Derived.Test.YtficonkpbohpeaaDoorSs1
namespace Go.Proofs.YtficonkpbohpeaaDoor.Jn1
open Go.RowKit
open Ss0 (bs ret_str)
open Ss1 (tl tl_inj tl_ext tl_length)
set_option linter.unusedVariables false

/-- The first n bytes. -/
def trn (S : ByteArray) (n : Int) : ByteArray := S.extract 0 (min (max n 0) (S.size : Int)).toNat
theorem trn_low {S : ByteArray} {n : Int} (h : n < 0) : trn S n = ⟨#[]⟩ := by
  unfold trn
  rw [show (min (max n 0) (S.size : Int)).toNat = 0 by omega]
  apply tl_inj
  rw [tl_ext]
  rfl
theorem trn_high {S : ByteArray} {n : Int} (h : (S.size : Int) < n) : trn S n = S := by
  unfold trn
  rw [show (min (max n 0) (S.size : Int)).toNat = S.size by omega]
  apply tl_inj
  rw [tl_ext, List.drop_zero, List.take_of_length_le (by rw [tl_length]; omega)]
theorem trn_mid {S : ByteArray} {n : Int} (h0 : 0 ≤ n) (h : n ≤ (S.size : Int)) : S.extract 0 n.toNat = trn S n := by
  unfold trn
  rw [show min (max n 0) (S.size : Int) = n by omega]

set_option maxHeartbeats 1000000 in
theorem sTorn (S : ByteArray) (n : Int) (w : World) (hs : S.size ≤ maxLen) :
    Calls Tryd.prog 20 #[.string S, .int .i64 n] w fun e w' => e = .returned (.string (trn S n)) ∧ w' = w := by
  by_cases h0 : n < 0
  · have HE : Hid (trn S n = ⟨#[]⟩) := trn_low h0
    go_enter Tryd.func20, Tryd.ntmps20
    go_wp2
    go_ret
    exact ⟨ret_str HE.out.symm, rfl⟩
  by_cases h1 : (S.size : Int) < n
  · have HE : Hid (trn S n = S) := trn_high h1
    go_enter Tryd.func20, Tryd.ntmps20
    go_wp2
    go_ret
    exact ⟨ret_str HE.out.symm, rfl⟩
  · have HE : Hid (S.extract 0 n.toNat = trn S n) := trn_mid (by omega) (by omega)
    have hz : 0 ≤ n := by omega
    have h2 : n ≤ (S.size : Int) := by omega
    go_enter Tryd.func20, Tryd.ntmps20
    go_wp2
    go_ret
    exact ⟨ret_str HE.out, rfl⟩
set_option maxHeartbeats 1000000 in
theorem iTorn (S : ByteArray) (n : Int) (w : World) (hs : S.size ≤ maxLen) :
    Calls Tryd.prog 19 #[.string S, .int .i64 n] w fun e w' => e = .returned (.string (trn S n)) ∧ w' = w := by
  by_cases h0 : n < 0
  · have HE : Hid (trn S n = S.extract 0 0) := by
      show _ = _
      unfold trn
      rw [show (min (max n 0) (S.size : Int)).toNat = 0 by omega]
    go_enter Tryd.func19, Tryd.ntmps19
    go_wp2
    go_ret
    exact ⟨ret_str (by rw [HE.out]; simp), rfl⟩
  by_cases h1 : (S.size : Int) < n
  · have HE : Hid (trn S n = S) := trn_high h1
    go_enter Tryd.func19, Tryd.ntmps19
    go_wp2
    go_ret
    exact ⟨ret_str (by rw [HE.out]), rfl⟩
  · have HE : Hid (S.extract 0 n.toNat = trn S n) := trn_mid (by omega) (by omega)
    have hz : 0 ≤ n := by omega
    have h2 : n ≤ (S.size : Int) := by omega
    go_enter Tryd.func19, Tryd.ntmps19
    go_wp2
    go_ret
    exact ⟨ret_str HE.out, rfl⟩
end Go.Proofs.YtficonkpbohpeaaDoor.Jn1
