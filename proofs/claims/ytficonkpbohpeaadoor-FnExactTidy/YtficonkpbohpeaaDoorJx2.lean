/- The exact laws of Record, Append, Last and Tidy. -/
import Derived.Test.YtficonkpbohpeaaDoorJn2
import Derived.Test.YtficonkpbohpeaaDoorJn7
namespace Go.Proofs.YtficonkpbohpeaaDoor.Jx2
open Go.RowKit
open Jn0 Jn2 Jn6 Jn7
open Ss0 (bs)
open Ss1 (tl)
open Tk0 (TabK)
open Zt0 (TabZ)
set_option linter.unusedVariables false

set_option maxRecDepth 100000 in
set_option maxHeartbeats 1000000 in
theorem exRecord (w : World) (S : ByteArray) (hS : S.size ≤ maxLen) (hT : TabK w) :
    Calls Tryd.prog 5 #[.string S] w fun e w' => e = .returned (.bool true) ∧ Below w.heap.size w w' := by
  by_cases hsS : (1048576 : Int) < (S.size : Int)
  · clear hT
    go_enter Tryd.func5, Tryd.ntmps5
    go_wp2
    go_ret
    exact ⟨rfl, Below.refl _ _⟩
  have HSP : Hid _ := sRecord S w hS
  have HIM : Hid (∀ W, TabK W → Calls Tryd.prog 17 #[.string S] W fun e w' => e = .returned (.string (rcd S)) ∧ Below W.heap.size W w') := fun W hW => iRecord S W hS hW
  have HTT : Hid (TabK w) := hT
  clear hT
  obtain ⟨R, hR⟩ : ∃ x, x = rcd S := ⟨_, rfl⟩
  rw [← hR] at HSP HIM
  clear hR
  go_enter Tryd.func5, Tryd.ntmps5
  go_wp2_with fail
  refine Calls.mono HSP.out ?_
  rintro e w1 ⟨rfl, hw1⟩
  have HB : Hid (Below w.heap.size w w1) := by rw [hw1]; exact Below.refl _ _
  clear hw1
  go_wp2_with fail
  refine (HIM.out _ (HTT.out.below HB.out)).mono ?_
  rintro e w2 ⟨rfl, hb2⟩
  have HB2 : Hid (Below w.heap.size w w2) := HB.out.trans (hb2.mono HB.out.size)
  clear hb2
  go_wp2
  go_ret
  exact ⟨rfl, HB2.out⟩
set_option maxRecDepth 100000 in
set_option maxHeartbeats 1000000 in
theorem exAppend (w : World) (J : ByteArray) (S : ByteArray) (hJ : J.size ≤ maxLen) (hS : S.size ≤ maxLen) (hT : TabK w) :
    Calls Tryd.prog 6 #[.string J, .string S] w fun e w' => e = .returned (.bool true) ∧ Below w.heap.size w w' := by
  by_cases hsJ : (1048576 : Int) < (J.size : Int)
  · clear hT
    go_enter Tryd.func6, Tryd.ntmps6
    go_wp2
    go_ret
    exact ⟨rfl, Below.refl _ _⟩
  by_cases hsS : (1048576 : Int) < (S.size : Int)
  · clear hT
    go_enter Tryd.func6, Tryd.ntmps6
    go_wp2
    go_ret
    exact ⟨rfl, Below.refl _ _⟩
  have HSP : Hid _ := sAppend J S w (by omega) hS
  have HIM : Hid (∀ W, TabK W → Calls Tryd.prog 15 #[.string J, .string S] W fun e w' => e = .returned (.tuple #[.string (apd J S), .bool (apB J S)]) ∧ Below W.heap.size W w') := fun W hW => iAppend J S W (by omega) hS hW
  have HTT : Hid (TabK w) := hT
  clear hT
  obtain ⟨R, hR⟩ : ∃ x, x = apd J S := ⟨_, rfl⟩
  rw [← hR] at HSP HIM
  clear hR
  obtain ⟨b, hb⟩ : ∃ x, x = apB J S := ⟨_, rfl⟩
  rw [← hb] at HSP HIM
  clear hb
  have hbb : (b != b) = false := by cases b <;> rfl
  go_enter Tryd.func6, Tryd.ntmps6
  go_wp2_with fail
  refine Calls.mono HSP.out ?_
  rintro e w1 ⟨rfl, hw1⟩
  have HB : Hid (Below w.heap.size w w1) := by rw [hw1]; exact Below.refl _ _
  clear hw1
  go_wp2_with fail
  refine (HIM.out _ (HTT.out.below HB.out)).mono ?_
  rintro e w2 ⟨rfl, hb2⟩
  have HB2 : Hid (Below w.heap.size w w2) := HB.out.trans (hb2.mono HB.out.size)
  clear hb2
  go_wp2
  go_ret
  exact ⟨rfl, HB2.out⟩
set_option maxRecDepth 100000 in
set_option maxHeartbeats 1000000 in
theorem exLast (w : World) (J : ByteArray) (hJ : J.size ≤ maxLen) (hT : TabZ w) :
    Calls Tryd.prog 8 #[.string J] w fun e w' => e = .returned (.bool true) ∧ Below w.heap.size w w' := by
  by_cases hsJ : (1048576 : Int) < (J.size : Int)
  · clear hT
    go_enter Tryd.func8, Tryd.ntmps8
    go_wp2
    go_ret
    exact ⟨rfl, Below.refl _ _⟩
  have HSP : Hid _ := sLast J w (by omega)
  have HIM : Hid (∀ W, TabZ W → Calls Tryd.prog 16 #[.string J] W fun e w' => e = .returned (.tuple #[.string (bs (lst (rcs (tl J)))), .bool (decide (0 < (rcs (tl J)).length))]) ∧ Below W.heap.size W w') := fun W hW => iLast J W hW (by omega)
  have HTT : Hid (TabZ w) := hT
  clear hT
  obtain ⟨R, hR⟩ : ∃ x, x = bs (lst (rcs (tl J))) := ⟨_, rfl⟩
  rw [← hR] at HSP HIM
  clear hR
  obtain ⟨b, hb⟩ : ∃ x, x = decide (0 < (rcs (tl J)).length) := ⟨_, rfl⟩
  rw [← hb] at HSP HIM
  clear hb
  have hbb : (b != b) = false := by cases b <;> rfl
  go_enter Tryd.func8, Tryd.ntmps8
  go_wp2_with fail
  refine Calls.mono HSP.out ?_
  rintro e w1 ⟨rfl, hb⟩
  have HB : Hid (Below w.heap.size w w1) := hb
  clear hb
  go_wp2_with fail
  refine (HIM.out _ (HTT.out.below HB.out)).mono ?_
  rintro e w2 ⟨rfl, hb2⟩
  have HB2 : Hid (Below w.heap.size w w2) := HB.out.trans (hb2.mono HB.out.size)
  clear hb2
  go_wp2
  go_ret
  exact ⟨rfl, HB2.out⟩
set_option maxRecDepth 100000 in
set_option maxHeartbeats 1000000 in
theorem exTidy (w : World) (J : ByteArray) (hJ : J.size ≤ maxLen) (hT : TabZ w) :
    Calls Tryd.prog 9 #[.string J] w fun e w' => e = .returned (.bool true) ∧ Below w.heap.size w w' := by
  by_cases hsJ : (1048576 : Int) < (J.size : Int)
  · clear hT
    go_enter Tryd.func9, Tryd.ntmps9
    go_wp2
    go_ret
    exact ⟨rfl, Below.refl _ _⟩
  have HSP : Hid _ := sTidy J w (by omega)
  have HIM : Hid (∀ W, TabZ W → Calls Tryd.prog 14 #[.string J] W fun e w' => e = .returned (.string (bs (cat (rcs (tl J))))) ∧ Below W.heap.size W w') := fun W hW => iTidy J W hW (by omega)
  have HTT : Hid (TabZ w) := hT
  clear hT
  obtain ⟨R, hR⟩ : ∃ x, x = bs (cat (rcs (tl J))) := ⟨_, rfl⟩
  rw [← hR] at HSP HIM
  clear hR
  go_enter Tryd.func9, Tryd.ntmps9
  go_wp2_with fail
  refine Calls.mono HSP.out ?_
  rintro e w1 ⟨rfl, hb⟩
  have HB : Hid (Below w.heap.size w w1) := hb
  clear hb
  go_wp2_with fail
  refine (HIM.out _ (HTT.out.below HB.out)).mono ?_
  rintro e w2 ⟨rfl, hb2⟩
  have HB2 : Hid (Below w.heap.size w w2) := HB.out.trans (hb2.mono HB.out.size)
  clear hb2
  go_wp2
  go_ret
  exact ⟨rfl, HB2.out⟩
end Go.Proofs.YtficonkpbohpeaaDoor.Jx2
