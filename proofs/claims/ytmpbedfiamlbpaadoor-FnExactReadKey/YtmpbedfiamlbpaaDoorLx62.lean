/- The exact law of ReadKey. -/
import Derived.Test.YtmpbedfiamlbpaaDoorZk2
import Derived.Test.YtmpbedfiamlbpaaDoorTc3
namespace Go.Proofs.YtmpbedfiamlbpaaDoor.Lx62
open Go.RowKit
open Nd0 (lt_of_cell)
open Tc2 (tv)
open Tc3 (Tbx eqTable)
open Ss0 (bs)
open Ss1 (tl)
open Zk0 Zt0 Zk1 Zk2
set_option linter.unusedVariables false

set_option maxRecDepth 100000 in
set_option maxHeartbeats 4000000 in
theorem exReadKey (w : World) (S : ByteArray) (hS : S.size ≤ maxLen) (hT : TabZ w) :
    Calls Tryd.prog 3 #[.string S] w fun e w' => e = .returned (.bool true) ∧ Below w.heap.size w w' := by
  by_cases hs : (1048576 : Int) < (S.size : Int)
  · go_enter Tryd.func3, Tryd.ntmps3
    go_wp2
    go_ret
    exact ⟨rfl, Below.refl _ _⟩
  obtain ⟨N, hN⟩ : ∃ N, N = if rkB (tl S) = true then rkN (tl S) else 0 := ⟨_, rfl⟩
  obtain ⟨T, hTT⟩ : ∃ T, T = bs (if rkB (tl S) = true then cutS 58 (tl S) else []) := ⟨_, rfl⟩
  obtain ⟨ok, hk⟩ : ∃ k, k = rkB (tl S) := ⟨_, rfl⟩
  have HSP : Hid (∀ W, Calls Tryd.prog 4 #[.string S] W fun e w' => e = .returned (.tuple #[tv N T, .bool ok]) ∧ Below W.heap.size W w') := fun W => by rw [hN, hTT, hk]; exact sReadKey S W (by omega)
  have HIM : Hid (∀ W, TabZ W → Calls Tryd.prog 5 #[.string S] W fun e w' => e = .returned (.tuple #[tv N T, .bool ok]) ∧ Below W.heap.size W w') := fun W h => by rw [hN, hTT, hk]; exact iReadKey S W h (by omega)
  have HTZ : Hid (TabZ w) := hT
  clear hN hTT hk hT hS
  have hok : (ok != ok) = false := by cases ok <;> rfl
  go_enter Tryd.func3, Tryd.ntmps3
  go_wp2_with fail
  refine (HSP.out _).mono ?_
  rintro e w1 ⟨rfl, hb1⟩
  have HB1 : Hid (Below w.heap.size w w1) := hb1
  clear hb1
  go_upto_region 4 with fail
  obtain ⟨W2, hW2⟩ : ∃ X, X = w1.alloc (.cells #[.int .i64 N, .string T] 23) := ⟨_, rfl⟩
  obtain ⟨q, hq⟩ : ∃ q, q = w1.heap.size := ⟨_, rfl⟩
  have hb : Below w1.heap.size w1 W2 := by rw [hW2]; exact (Below.refl _ _).alloc (Nat.le_refl _) _
  have HT2 : Hid (Tbx W2 q N T) := by rw [hW2, hq]; exact Tbx.made _ _ _ _
  have HB2 : Hid (Below w.heap.size w W2) := HB1.out.trans (hb.mono HB1.out.size)
  rw [← hW2, ← hq]
  clear hb hW2 hq HB1
  go_wp2_with fail
  refine (HIM.out _ (HTZ.out.below HB2.out)).mono ?_
  rintro e w3 ⟨rfl, hb⟩
  have HB3 : Hid (Below w.heap.size w w3) := HB2.out.trans (hb.mono HB2.out.size)
  have HT3 : Hid (Tbx w3 q N T) := HT2.out.below hb
  clear hb HB2 HT2
  go_upto_region 5 with fail
  obtain ⟨W4, hW4⟩ : ∃ X, X = w3.alloc (.cells #[.int .i64 N, .string T] 23) := ⟨_, rfl⟩
  obtain ⟨r, hr⟩ : ∃ q, q = w3.heap.size := ⟨_, rfl⟩
  have hb : Below w3.heap.size w3 W4 := by rw [hW4]; exact (Below.refl _ _).alloc (Nat.le_refl _) _
  have HR4 : Hid (Tbx W4 r N T) := by rw [hW4, hr]; exact Tbx.made _ _ _ _
  have HT4 : Hid (Tbx W4 q N T) := HT3.out.below hb
  have HB4 : Hid (Below w.heap.size w W4) := HB3.out.trans (hb.mono HB3.out.size)
  rw [← hW4, ← hr]
  clear hb hW4 hr HB3 HT3
  obtain ⟨t0, t1⟩ := HT4.out
  obtain ⟨r0, r1⟩ := HR4.out
  go_wp2_with fail
  clear t0 t1 r0 r1
  refine (eqTable N N T T _).mono ?_
  rw [decide_eq_true ⟨rfl, rfl⟩]
  rintro e w5 ⟨rfl, hb⟩
  have HB5 : Hid (Below w.heap.size w w5) := HB4.out.trans (hb.mono HB4.out.size)
  clear hb
  go_wp2
  go_ret
  exact ⟨rfl, HB5.out⟩
end Go.Proofs.YtmpbedfiamlbpaaDoor.Lx62
