/- The pair of tables that FnLogic draws. -/
import Derived.Test.YtkcbonocbdfbcaaDoorTdt
namespace Go.Proofs.YtkcbonocbdfbcaaDoor.Tdu
open Go.RowKit
open Ta0 Ta1 Tc2 Tc5 Td1 Td2 Tdr Tds
open Nd0 (Kept set_same)
open Dr0 (Cur Only Bytes)
set_option linter.unusedVariables false

set_option maxHeartbeats 2000000 in
theorem drawTableAnd (w : World) (a : Option Addr) (len cap : Nat) (hb : Bytes w a len) :
    Calls Tryd.prog 14 #[.slice a len cap] w fun e w' => (∃ (N M : Int) (S T : ByteArray), e = .returned (.tuple #[tv N S, tv M T]) ∧ S.size ≤ 64 ∧ T.size ≤ 64) ∧ Below w.heap.size w w' := by
  have HB0 : Hid (Bytes ((w.alloc (.cells #[.int .i64 0, .string ByteArray.empty] 25)).alloc (.cells #[.int .i64 0, .string ByteArray.empty] 25)) a len) := (hb.below ((Below.refl _ _).alloc (Nat.le_refl _) _)).below ((Below.refl _ _).alloc (Nat.le_refl _) _)
  have HR1 : Hid (Lay ((w.alloc (.cells #[.int .i64 0, .string ByteArray.empty] 25)).alloc (.cells #[.int .i64 0, .string ByteArray.empty] 25)) w.heap.size (.int .i64 0) (.string ByteArray.empty)) := (Lay.made _ _ _ _).alloc _
  have HR2 : Hid (Lay ((w.alloc (.cells #[.int .i64 0, .string ByteArray.empty] 25)).alloc (.cells #[.int .i64 0, .string ByteArray.empty] 25)) (w.heap.size + 1) (.int .i64 0) (.string ByteArray.empty)) := by
    have := Lay.made (w.alloc (.cells #[.int .i64 0, .string ByteArray.empty] 25)) (.int .i64 0) (.string ByteArray.empty) 25
    show Lay _ _ _ _
    simpa using this
  have HA0 : Hid (Below w.heap.size w ((w.alloc (.cells #[.int .i64 0, .string ByteArray.empty] 25)).alloc (.cells #[.int .i64 0, .string ByteArray.empty] 25))) := ((Below.refl _ _).alloc (Nat.le_refl _) _).alloc (by simp) _
  clear hb
  go_enter Tryd.func14, Tryd.ntmps14
  go_wp2_with fail
  refine (Tdt.l06Two _ a len cap HB0.out).mono ?_
  rintro e w1 ⟨⟨N, M, S, T, rfl, hS, hT⟩, hb1⟩
  have HP1 : Hid (Lay w1 w.heap.size (.int .i64 0) (.string ByteArray.empty)) := HR1.out.below hb1
  have HP2 : Hid (Lay w1 (w.heap.size + 1) (.int .i64 0) (.string ByteArray.empty)) := HR2.out.below hb1
  have HA1 : Hid (Below w.heap.size w w1) := HA0.out.trans (hb1.mono HA0.out.size)
  clear hb1
  obtain ⟨r0, r1, r2, r3⟩ := HP1.out
  obtain ⟨s0, s1, s2, s3⟩ := HP2.out
  go_wp2
  obtain ⟨W, hW, hz1, hz2, hbz⟩ := Tdt.fin2T HP1.out HP2.out HA1.out (.int .i64 N) (.string S) (.int .i64 M) (.string T)
  rw [← hW]
  obtain ⟨z0, z1, _, _⟩ := hz1
  obtain ⟨y0, y1, _, _⟩ := hz2
  exact bodyPost_ret (v := .tuple #[tv N S, tv M T]) (by simp [results, Tryd.results14, go_sem, z0, z1, y0, y1]) rfl ⟨⟨N, M, S, T, rfl, hS, hT⟩, hbz⟩

end Go.Proofs.YtkcbonocbdfbcaaDoor.Tdu
