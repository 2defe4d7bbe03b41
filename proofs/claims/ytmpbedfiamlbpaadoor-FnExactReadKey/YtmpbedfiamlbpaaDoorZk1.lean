/- The program's ReadKey. -/
import Derived.Deep.CutBlock
import Derived.Test.YtmpbedfiamlbpaaDoorZt0
import Derived.Test.YtmpbedfiamlbpaaDoorTd2
namespace Go.Proofs.YtmpbedfiamlbpaaDoor.Zk1
open Go.RowKit
open Nd0 (lt_of_cell)
open Ta1 (tab tokB tok_tab tab_length)
open Tc2 (tv iTableOk)
open Tc5 (Lay)
open Td2 (finT)
open Ss0 (bs bs_size)
open Ss1 (tl tl_bs bs_tl tl_length)
open Tk0 (keyL iKey)
open Zk0 Zt0
set_option linter.unusedVariables false

/-- What reading a key comes to. -/
def RkP (S : ByteArray) (e : Ending) : Prop := e = .returned (.tuple #[tv (if rkB (tl S) = true then rkN (tl S) else 0) (bs (if rkB (tl S) = true then cutS 58 (tl S) else [])), .bool (rkB (tl S))])
theorem RkP.yes {S : ByteArray} {N : Int} {T : ByteArray} (h : rkB (tl S) = true) (hN : N = rkN (tl S)) (hT : T = bs (cutS 58 (tl S))) : RkP S (.returned (.tuple #[tv N T, .bool true])) := by
  unfold RkP
  rw [h, if_pos rfl, if_pos rfl, hN, hT]
theorem RkP.no {S : ByteArray} (h : rkB (tl S) = false) : RkP S (.returned (.tuple #[tv 0 ⟨#[]⟩, .bool false])) := by
  unfold RkP
  rw [h]
  rfl

set_option maxRecDepth 100000 in
set_option maxHeartbeats 4000000 in
theorem iReadKey (S : ByteArray) (w : World) (hT : TabZ w) (hs : S.size ≤ 1048576) :
    Calls Tryd.prog 5 #[.string S] w fun e w' => RkP S e ∧ Below w.heap.size w w' := by
  have HTZ : Hid (TabZ w) := hT
  obtain ⟨X0, hX0⟩ : ∃ X, X = w.alloc (.cells #[.int .i64 0, .string ⟨#[]⟩] 23) := ⟨_, rfl⟩
  have b0 : Below w.heap.size w X0 := by rw [hX0]; exact (Below.refl _ _).alloc (Nat.le_refl _) _
  have HB0 : Hid (Below w.heap.size w X0) := b0
  have HR0 : Hid (Lay X0 w.heap.size (.int .i64 0) (.string ⟨#[]⟩)) := by rw [hX0]; exact Lay.made _ _ _ _
  have hE : w.alloc (.cells #[.int .i64 0, .string ⟨#[]⟩] 23) = X0 := hX0.symm
  have HCU : Hid _ := iCut 58 S X0 (hT.below b0) hs
  have hl1 : (cutF 58 (tl S)).length ≤ 1048576 := by have := cutF_le 58 (tl S); rw [tl_length] at this; omega
  have hl2 : (cutS 58 (tl S)).length ≤ 1048576 := by have := cutS_le 58 (tl S); rw [tl_length] at this; omega
  have HRN : Hid (∀ W, TabZ W → Calls Tryd.prog 11 #[.string (bs (cutF 58 (tl S)))] W fun e w' => e = .returned (.tuple #[.int .i64 (rkN (tl S)), .bool (rnP (cutF 58 (tl S))).2]) ∧ Below W.heap.size W w') := fun W h => by
    have := iReadNumber (bs (cutF 58 (tl S))) W h (by rw [bs_size]; exact hl1)
    rw [tl_bs] at this
    exact this
  have HTO : Hid (∀ W, Calls Tryd.prog 12 #[tv (rkN (tl S)) (bs (cutS 58 (tl S)))] W fun e w' => e = .returned (.bool (tokB (rkN (tl S)) (cutS 58 (tl S)))) ∧ Below W.heap.size W w') := fun W => by
    have := iTableOk (rkN (tl S)) (bs (cutS 58 (tl S))) W (by rw [bs_size]; exact hl2)
    rw [tl_bs] at this
    exact this
  obtain ⟨rb, hrb⟩ : ∃ b, b = (rnP (cutF 58 (tl S))).2 := ⟨_, rfl⟩
  obtain ⟨tb, htb⟩ : ∃ b, b = tokB (rkN (tl S)) (cutS 58 (tl S)) := ⟨_, rfl⟩
  have HK : Hid (rkB (tl S) = (rb && (tb && decide (keyL (rkN (tl S)).toNat (cutS 58 (tl S)) = tl S)))) := by show _ = _; rw [hrb, htb]; rfl
  have HKY : Hid (tb = true → ∀ W, TabZ W → Calls Tryd.prog 13 #[tv (rkN (tl S)) (bs (cutS 58 (tl S)))] W fun e w' => e = .returned (.string (bs (keyL (rkN (tl S)).toNat (cutS 58 (tl S))))) ∧ Below W.heap.size W w') := fun ht W h => by
    rw [htb] at ht
    obtain ⟨n, F, hn, hN, hl⟩ := tok_tab ht
    rw [hN, hl, Int.toNat_natCast]
    exact iKey n F W hn h.pow
  rw [← hrb] at HRN
  rw [← htb] at HTO
  clear hX0 b0 hT hs hl1 hl2 hrb htb
  obtain ⟨N, hN⟩ : ∃ N, N = rkN (tl S) := ⟨_, rfl⟩
  have HN : Hid (N = rkN (tl S)) := hN
  obtain ⟨X, hX⟩ : ∃ X, X = bs (cutF 58 (tl S)) := ⟨_, rfl⟩
  obtain ⟨Y, hY⟩ : ∃ Y, Y = bs (cutS 58 (tl S)) := ⟨_, rfl⟩
  have HY : Hid (Y = bs (cutS 58 (tl S))) := hY
  obtain ⟨KS, hKS⟩ : ∃ K, K = bs (keyL (rkN (tl S)).toNat (cutS 58 (tl S))) := ⟨_, rfl⟩
  have HKS : Hid (KS = bs (keyL (rkN (tl S)).toNat (cutS 58 (tl S)))) := hKS
  rw [← hX, ← hY] at HCU
  rw [← hX, ← hN] at HRN
  rw [← hY, ← hN] at HTO
  rw [← hKS, ← hY, ← hN] at HKY
  clear hN hX hY hKS
  go_enter Tryd.func5, Tryd.ntmps5
  go_upto_region 1 with fail
  clear hE
  go_wp2_with fail
  refine Calls.mono HCU.out ?_
  rintro e w1 ⟨⟨cb, rfl⟩, hb⟩
  have HB1 : Hid (Below w.heap.size w w1) := HB0.out.trans (hb.mono HB0.out.size)
  have HR1 : Hid (Lay w1 w.heap.size (.int .i64 0) (.string ⟨#[]⟩)) := HR0.out.below hb
  clear hb HB0 HR0 HCU
  go_wp2_with fail
  refine (HRN.out _ (HTZ.out.below HB1.out)).mono ?_
  rintro e w2 ⟨rfl, hb⟩
  have HB2 : Hid (Below w.heap.size w w2) := HB1.out.trans (hb.mono HB1.out.size)
  have HR2 : Hid (Lay w2 w.heap.size (.int .i64 0) (.string ⟨#[]⟩)) := HR1.out.below hb
  clear hb HB1 HR1 HRN
  go_upto_region 4 with fail
  obtain ⟨W3, hW3⟩ : ∃ X, X = w2.alloc (.cells #[.int .i64 N, .string Y] 23) := ⟨_, rfl⟩
  obtain ⟨q, hq⟩ : ∃ q, q = w2.heap.size := ⟨_, rfl⟩
  have hb : Below w2.heap.size w2 W3 := by rw [hW3]; exact (Below.refl _ _).alloc (Nat.le_refl _) _
  have HT3 : Hid (Lay W3 q (.int .i64 N) (.string Y)) := by rw [hW3, hq]; exact Lay.made _ _ _ _
  have HB3 : Hid (Below w.heap.size w W3) := HB2.out.trans (hb.mono HB2.out.size)
  have HR3 : Hid (Lay W3 w.heap.size (.int .i64 0) (.string ⟨#[]⟩)) := HR2.out.below hb
  rw [← hW3, ← hq]
  clear hb hW3 hq HB2 HR2
  cases rb
  · have HF : Hid (rkB (tl S) = false) := by show _ = _; rw [HK.out]; rfl
    have HFN : Hid _ := finT HR3.out HB3.out (Nat.le_refl _) (.int .i64 0) (.string ⟨#[]⟩)
    obtain ⟨r0, r1, r2, r3⟩ := HR3.out
    go_wp2
    obtain ⟨W, hW, hz, hbz⟩ := HFN.out
    rw [← hW]
    obtain ⟨z0, z1, _, _⟩ := hz
    exact bodyPost_ret (v := .tuple #[tv 0 ⟨#[]⟩, .bool false]) (by simp [results, Tryd.results5, go_sem, z0, z1]) rfl ⟨RkP.no HF.out, hbz⟩
  cases tb
  · have HF : Hid (rkB (tl S) = false) := by show _ = _; rw [HK.out]; rfl
    obtain ⟨t0, t1, _, _⟩ := HT3.out
    go_wp2_with fail
    clear t0 t1
    refine (HTO.out _).mono ?_
    rintro e w4 ⟨rfl, hb⟩
    have HB4 : Hid (Below w.heap.size w w4) := HB3.out.trans (hb.mono HB3.out.size)
    have HR4 : Hid (Lay w4 w.heap.size (.int .i64 0) (.string ⟨#[]⟩)) := HR3.out.below hb
    clear hb
    have HFN : Hid _ := finT HR4.out HB4.out (Nat.le_refl _) (.int .i64 0) (.string ⟨#[]⟩)
    obtain ⟨r0, r1, r2, r3⟩ := HR4.out
    go_wp2
    obtain ⟨W, hW, hz, hbz⟩ := HFN.out
    rw [← hW]
    obtain ⟨z0, z1, _, _⟩ := hz
    exact bodyPost_ret (v := .tuple #[tv 0 ⟨#[]⟩, .bool false]) (by simp [results, Tryd.results5, go_sem, z0, z1]) rfl ⟨RkP.no HF.out, hbz⟩
  have HKY2 : Hid _ := HKY.out rfl
  clear HKY
  obtain ⟨t0, t1, _, _⟩ := HT3.out
  go_wp2_with fail
  clear t0 t1
  refine (HTO.out _).mono ?_
  rintro e w4 ⟨rfl, hb⟩
  have HB4 : Hid (Below w.heap.size w w4) := HB3.out.trans (hb.mono HB3.out.size)
  have HR4 : Hid (Lay w4 w.heap.size (.int .i64 0) (.string ⟨#[]⟩)) := HR3.out.below hb
  have HT4 : Hid (Lay w4 q (.int .i64 N) (.string Y)) := HT3.out.below hb
  clear hb HB3 HR3 HT3
  obtain ⟨t0, t1, _, _⟩ := HT4.out
  go_wp2_with fail
  clear t0 t1
  refine (HKY2.out _ (HTZ.out.below HB4.out)).mono ?_
  rintro e w5 ⟨rfl, hb⟩
  have HB5 : Hid (Below w.heap.size w w5) := HB4.out.trans (hb.mono HB4.out.size)
  have HR5 : Hid (Lay w5 w.heap.size (.int .i64 0) (.string ⟨#[]⟩)) := HR4.out.below hb
  have HT5 : Hid (Lay w5 q (.int .i64 N) (.string Y)) := HT4.out.below hb
  clear hb HB4 HR4 HT4
  by_cases hk : keyL (rkN (tl S)).toNat (cutS 58 (tl S)) = tl S
  · have HF : Hid (rkB (tl S) = true) := by show _ = _; rw [HK.out, decide_eq_true hk]; rfl
    have hne : (KS.toList == S.toList) = true := Ss1.eqb_true (by rw [HKS.out, tl_bs, hk])
    have HFN : Hid _ := finT HR5.out HB5.out (Nat.le_refl _) (.int .i64 N) (.string Y)
    clear hk
    obtain ⟨t0, t1, _, _⟩ := HT5.out
    obtain ⟨r0, r1, r2, r3⟩ := HR5.out
    have hq1 := HT5.out.lt
    go_wp2
    obtain ⟨W, hW, hz, hbz⟩ := HFN.out
    rw [← hW]
    obtain ⟨z0, z1, _, _⟩ := hz
    exact bodyPost_ret (v := .tuple #[tv N Y, .bool true]) (by simp [results, Tryd.results5, go_sem, z0, z1]) rfl ⟨RkP.yes HF.out HN.out HY.out, hbz⟩
  · have HF : Hid (rkB (tl S) = false) := by show _ = _; rw [HK.out, decide_eq_false hk]; rfl
    have hne : (KS.toList == S.toList) = false := Ss1.eqb_false (by rw [HKS.out, tl_bs]; exact hk)
    have HFN : Hid _ := finT HR5.out HB5.out (Nat.le_refl _) (.int .i64 0) (.string ⟨#[]⟩)
    clear hk
    obtain ⟨r0, r1, r2, r3⟩ := HR5.out
    go_wp2
    obtain ⟨W, hW, hz, hbz⟩ := HFN.out
    rw [← hW]
    obtain ⟨z0, z1, _, _⟩ := hz
    exact bodyPost_ret (v := .tuple #[tv 0 ⟨#[]⟩, .bool false]) (by simp [results, Tryd.results5, go_sem, z0, z1]) rfl ⟨RkP.no HF.out, hbz⟩
end Go.Proofs.YtmpbedfiamlbpaaDoor.Zk1
