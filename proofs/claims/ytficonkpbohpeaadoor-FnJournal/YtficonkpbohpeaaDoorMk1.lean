/- Marks on Seens: the text of a mark. -/
import Derived.Laws.IdiomStrings
import Derived.Test.YtficonkpbohpeaaDoorPkT34
import Derived.Test.YtficonkpbohpeaaDoorPkT7
namespace Go.Proofs.YtficonkpbohpeaaDoor.Mk1
open Go.RowKit
open Nd0 Tx0
open Ss0 (bs bs_app bs_size)
set_option linter.unusedVariables false

/-- The text of a mark. -/
def mt (k : Nat) : ByteArray := bs (109 :: digs k)
set_option maxRecDepth 100000 in
set_option maxHeartbeats 1000000 in
theorem markText (k : Nat) (w : World) (h0 : 0 < k) (h : k < 1000000000) :
    Calls Tryd.prog 37 #[.int .i64 k] w fun e w' => e = .returned (.string (mt k)) ∧ Below w.heap.size w w' := by
  have hz : ¬ (k : Int) ≤ 0 := by omega
  go_enter Tryd.func37, Tryd.ntmps37
  go_wp2
  go_loopw [0, 3] (fun m o wr => ∃ (j : Nat) (s : List UInt8), j ≤ k ∧ m = .int .i64 j ∧ o = .string (bs s) ∧ digs k = digs j ++ s ∧ s.length + (digs j).length ≤ 9 ∧ Below w.heap.size w wr) (fun m _ _ => (intOf m).toNat)
  case atStart => exact ⟨k, [], Nat.le_refl _, rfl, rfl, by simp, by have := digs_len 9 k h; simpa using this, Below.refl _ _⟩
  case round =>
    obtain ⟨j, s, hj, rfl, rfl, hd, hl, hb⟩ := hrel
    have HD : Hid (digs k = digs j ++ s) := hd
    have HB : Hid (Below w.heap.size w wr) := hb
    clear hd hb
    by_cases hj0 : j = 0
    · subst hj0
      have HE : Hid (⟨#[109]⟩ ++ bs s = mt k) := by
        show _ = _
        unfold mt
        rw [show (⟨#[109]⟩ : ByteArray) = bs [109] from rfl, bs_app, HD.out, digs_zero]
        rfl
      have hss : (bs s).size ≤ 9 := by rw [bs_size]; omega
      go_wp2
      go_ret
      exact ⟨Ss0.ret_str HE.out, HB.out⟩
    · have hkz : (0 : Int) < (j : Int) := by omega
      have hr1 : 0 ≤ (j : Int) % 10 := by omega
      have hr2 : (j : Int) % 10 < 10 := by omega
      have hss : (bs s).size ≤ 9 := by rw [bs_size]; omega
      have hp := digs_pos (n := j) (by omega)
      have HN : Hid (digs k = digs (j / 10) ++ (UInt8.ofNat (48 + j % 10) :: s)) := by
        show _ = _
        rw [HD.out, hp]; simp
      have HL : Hid ((UInt8.ofNat (48 + j % 10) :: s).length + (digs (j / 10)).length ≤ 9) := by
        show _ ≤ _
        rw [hp] at hl
        simp at hl ⊢; omega
      clear hp
      have hcv : (convert 22 9 (.slice (some ⟨wr.heap.size, 0, none⟩) 1 1)).run Tryd.prog (wr.alloc (.cells #[.int .u8 (48 + (j : Int) % 10)] 5)) = .ok (.string (bs [UInt8.ofNat (48 + j % 10)])) (wr.alloc (.cells #[.int .u8 (48 + (j : Int) % 10)] 5)) := by
        refine run_convert_bytes_back (P := Tryd.prog) _ 22 9 5 ⟨wr.heap.size, 0, none⟩ 1 [UInt8.ofNat (48 + j % 10)] Tryd.underlying22 Tryd.underlying5 Tryd.underlying9 (fun i hi => ?_)
        have : i = 0 := by simpa using hi
        subst this
        rw [Addr.add_lit, World.cell?_alloc_new]
        simp
        omega
      obtain ⟨D, hD⟩ : ∃ D, D = bs [UInt8.ofNat (48 + j % 10)] := ⟨_, rfl⟩
      have hs1 : D.size ≤ 1 := by rw [hD, bs_size]; simp
      rw [← hD] at hcv
      have HDD : Hid (D = bs [UInt8.ofNat (48 + j % 10)]) := hD
      clear hD
      have hsum : ¬ 9223372036854775807 < D.size + (bs s).size := by omega
      go_wp2
      go_roundw
      case rel => exact ⟨j / 10, UInt8.ofNat (48 + j % 10) :: s, by omega, by go_num, by rw [HDD.out, bs_app]; rfl, HN.out, HL.out, HB.out.alloc HB.out.size _⟩
      case measure => simp [intOf]; omega
end Go.Proofs.YtficonkpbohpeaaDoor.Mk1
