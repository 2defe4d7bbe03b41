/- Small texts of mine, one behind the other. -/
import Derived.Test.YtejgcchkhljnjaaGreatPkNM14
import Derived.Test.YtejgcchkhljnjaaGreatPkNM18
import Derived.Test.YtejgcchkhljnjaaGreatPkNM19
import Derived.Test.YtejgcchkhljnjaaGreatPkNM25
import Derived.Test.YtejgcchkhljnjaaGreatPkNM29
import Derived.Test.YtejgcchkhljnjaaGreatPkNM30
import Derived.Test.YtejgcchkhljnjaaGreatPkNM26
/- The walk of the law FnNames. -/
namespace Go.Proofs.YtejgcchkhljnjaaGreat.Lnm1
open Go.RowKit
open Nd0 Nd3 Tm0 Tm2 Tm3 Tm6 Dw0 Tm11 Vl1 Vl5 Ic4 Ds1 Lw4 Aq0 Aq6
open Lw5 (sameNodes)
open Dr0 (Cur Only Bytes Off)
open Lx1 (ITermOk)
open Lx4 (IPrune)
open Am4 (sRename)
open Sv6 (vRes)
open Sv7 (sHolds)
open Pb1 (iVars)
open Pb2 (iLevel)
open Pb5 (iRename)
open Ws1 (ret_int ret_bool)
set_option linter.unusedVariables false

theorem lat3 (w : World) (a : Option Addr) (len cap : Nat) (i : Int) (h0 : 0 ≤ i) (hk : i ≤ 1000) (hb : Bytes w a len) (hs : len ≤ 1048576) :
    ∃ x : Int, 0 ≤ x ∧ x ≤ 255 ∧ ∀ W : World, Below w.heap.size w W → Calls Tryz.prog 15 #[.slice a len cap, .int .i64 i] W fun e w' => e = .returned (.int .i64 x) ∧ w' = W := by
  obtain ⟨k, rfl⟩ := Int.eq_ofNat_of_zero_le h0
  by_cases hlt : k < len
  · rcases hb.2 with h0 | ⟨xb, xo, rfl, hcell⟩
    · omega
    obtain ⟨v, hv0, hv1, hv⟩ := hcell k hlt
    refine ⟨v, by omega, by omega, fun W hW => ?_⟩
    have hv2 : W.cell? ⟨xb, xo + k, none⟩ = some (.int .u8 v) := (hW.cell (p := ⟨xb, xo + k, none⟩) (lt_of_cell hv)).trans hv
    clear hcell hb hW hv
    go_enter Tryz.func15, Tryz.ntmps15
    go_wp2
    go_ret
    exact ⟨ret_int (by omega), rfl⟩
  · refine ⟨((k : Int) * 7 + (len : Int)) % 256, by omega, by omega, fun W hW => ?_⟩
    clear hb hW
    go_enter Tryz.func15, Tryz.ntmps15
    go_wp2
    go_ret
    exact ⟨rfl, rfl⟩

set_option maxRecDepth 100000 in
set_option maxHeartbeats 8000000 in
theorem lawNames (hTO : ITermOk) (hPR : IPrune) (hHO : IHolds) (w : World) (a : Option Addr) (len cap : Nat) (hb : Bytes w a len) :
    Calls Tryz.prog 4 #[.slice a len cap] w fun e w' => e = .returned (.bool true) ∧ Below w.heap.size w w' := by
  have HB : Hid (Bytes w a len) := hb
  have HTO : Hid ITermOk := hTO
  have HPR : Hid IPrune := hPR
  have HHO : Hid IHolds := hHO
  clear hTO hPR hHO
  by_cases hs : 1048576 < len
  · clear hb
    go_enter Tryz.func4, Tryz.ntmps4
    go_wp2_with fail
    refine (lbig _ a len cap true (by simp; omega)).mono ?_
    rintro e w' ⟨rfl, rfl⟩
    go_wp2
    go_ret
    exact ⟨rfl, Below.refl _ _⟩
  have hsl : len ≤ 1048576 := by omega
  obtain ⟨x, hx0, hx1, hxc⟩ := lat3 w a len cap 3 (by omega) (by omega) hb hsl
  obtain ⟨y, hy0, hy1, hyc⟩ := lat3 w a len cap 4 (by omega) (by omega) hb hsl
  have HXC : Hid (∀ W : World, Below w.heap.size w W → Calls Tryz.prog 15 #[.slice a len cap, .int .i64 3] W fun e w' => e = .returned (.int .i64 x) ∧ w' = W) := hxc
  have HYC : Hid (∀ W : World, Below w.heap.size w W → Calls Tryz.prog 15 #[.slice a len cap, .int .i64 4] W fun e w' => e = .returned (.int .i64 y) ∧ w' = W) := hyc
  have hx2 : 0 ≤ x % 4 := by omega
  have hx3 : x % 4 ≤ 3 := by omega
  have hy2 : 0 ≤ y % 8 := by omega
  have hy3 : y % 8 ≤ 7 := by omega
  clear hb hxc hyc
  go_enter Tryz.func4, Tryz.ntmps4
  go_wp2_with fail
  refine (lbig _ a len cap false (by simp; omega)).mono ?_
  rintro e w0 ⟨rfl, hz⟩
  have hz' := hz.symm
  clear hz
  subst hz'
  go_wp2_with fail
  refine (drawSaid _ a len cap HB.out).mono ?_
  rintro e w1 ⟨g, c, L, rfl, hn, hb1, hl1, hl2, hcL, hS, hQ⟩
  have HCL : Hid (L.length ≤ c) := hcL
  have HN1 : Hid (Nodes w1 (some ⟨g, 0, none⟩) L) := hn
  have HB1 : Hid (Below w.heap.size w w1) := hb1
  have HSQ : Hid (sentB L = true ∧ bitsL L ≤ 8) := ⟨hS, hQ⟩
  clear hn hb1 hcL hS hQ
  go_wp2_with fail
  refine (HXC.out _ HB1.out).mono ?_
  rintro e w' ⟨rfl, hq⟩
  have hq' := hq.symm
  clear hq
  subst hq'
  go_wp2_with fail
  refine (HYC.out _ HB1.out).mono ?_
  rintro e w' ⟨rfl, hq⟩
  have hq' := hq.symm
  clear hq
  subst hq'
  go_wp2_with fail
  obtain ⟨v, hv⟩ : ∃ v : Int, v = x % 4 := ⟨_, rfl⟩
  obtain ⟨u, hu⟩ : ∃ u : Int, u = y % 8 := ⟨_, rfl⟩
  rw [← hv, ← hu]
  rw [← hv] at hx2 hx3
  rw [← hu] at hy2 hy3
  clear hv hu HXC HYC hx0 hx1 hy0 hy1
  cases hok : renOk L v u
  · have HRO : Hid (renO L v u = []) := by show _ = _; unfold renO; rw [hok]; rfl
    have HOK : Hid (renOk L v u = false) := hok
    clear hok
    refine (iRename HTO.out _ _ L c v u HN1.out HCL.out (by omega)).mono ?_
    rw [HRO.out, HOK.out]
    rintro e w2 ⟨⟨a2, c2, rfl, -, -⟩, hb2⟩
    have HN2 : Hid (Nodes w2 (some ⟨g, 0, none⟩) L) := HN1.out.below hb2
    have HB2 : Hid (Below w.heap.size w w2) := HB1.out.trans (hb2.mono HB1.out.size)
    clear hb2 HN1 HB1
    rw [List.length_nil]
    go_wp2_with fail
    refine (sRename _ _ L c v u HN2.out (by omega)).mono ?_
    rw [HRO.out, HOK.out]
    rintro e w3 ⟨⟨a3, c3, rfl, -⟩, hb3⟩
    have HB3 : Hid (Below w.heap.size w w3) := HB2.out.trans (hb3.mono HB2.out.size)
    clear hb3 HN2 HB2
    go_wp2
    go_ret
    exact ⟨rfl, HB3.out⟩
  · obtain ⟨⟨X, hX⟩, hH, hV, hLv, hBk⟩ := names HSQ.out.1 HSQ.out.2 hok ⟨hx2, by omega⟩
    obtain ⟨R, hR⟩ : ∃ R, R = renL L v u := ⟨_, rfl⟩
    have HRO : Hid (renO L v u = R) := by show _ = _; unfold renO; rw [hok, hR]; rfl
    have HOK : Hid (renOk L v u = true) := hok
    rw [← hR] at hH hV hLv hBk
    rw [hX] at hH
    have HX : Hid (holdsL L = some X) := hX
    have HH : Hid (holdsL R = some X) := hH
    have HV : Hid ((varsL R).length = (varsL L).length) := hV
    have HLV : Hid (levelL R = levelL L) := hLv
    have HBK : Hid (u ≠ v → renOk R u v = true ∧ renL R u v = L) := hBk
    have hRl : R.length ≤ 80 := by rw [hR]; unfold renL; rw [List.length_map]; exact hl2
    have hvl : (varsL L).length ≤ 8 := varsTo_length _ 8
    clear hok hX hH hV hLv hBk hR
    refine (iRename HTO.out _ _ L c v u HN1.out HCL.out (by omega)).mono ?_
    rw [HRO.out, HOK.out]
    rintro e w2 ⟨⟨a2, c2, rfl, hw2, hc2⟩, hb2⟩
    have HN2 : Hid (Nodes w2 (some ⟨g, 0, none⟩) L) := HN1.out.below hb2
    have HB2 : Hid (Below w.heap.size w w2) := HB1.out.trans (hb2.mono HB1.out.size)
    have HR2 : Hid (Nodes w2 a2 R) := hw2.nodes
    have HCR : Hid (R.length ≤ c2) := hc2
    clear hb2 hw2 hc2 HN1 HB1
    go_wp2_with fail
    refine (sRename _ _ L c v u HN2.out (by omega)).mono ?_
    rw [HRO.out, HOK.out]
    rintro e w3 ⟨⟨a3, c3, rfl, -⟩, hb3⟩
    have HN3 : Hid (Nodes w3 (some ⟨g, 0, none⟩) L) := HN2.out.below hb3
    have HB3 : Hid (Below w.heap.size w w3) := HB2.out.trans (hb3.mono HB2.out.size)
    have HR3 : Hid (Nodes w3 a2 R) := HR2.out.below hb3
    clear hb3 HN2 HB2 HR2
    go_wp2_with fail
    refine (HHO.out _ _ L c HN3.out HCL.out (by omega)).mono ?_
    rw [HX.out]
    simp only [Option.getD_some, Option.isSome_some]
    rintro e w4 ⟨rfl, hb4⟩
    have HN4 : Hid (Nodes w4 (some ⟨g, 0, none⟩) L) := HN3.out.below hb4
    have HB4 : Hid (Below w.heap.size w w4) := HB3.out.trans (hb4.mono HB3.out.size)
    have HR4 : Hid (Nodes w4 a2 R) := HR3.out.below hb4
    clear hb4 HN3 HB3 HR3
    go_wp2_with fail
    refine (HHO.out _ _ R c2 HR4.out HCR.out (by omega)).mono ?_
    rw [HH.out]
    simp only [Option.getD_some, Option.isSome_some]
    rintro e w5 ⟨rfl, hb5⟩
    have HN5 : Hid (Nodes w5 (some ⟨g, 0, none⟩) L) := HN4.out.below hb5
    have HB5 : Hid (Below w.heap.size w w5) := HB4.out.trans (hb5.mono HB4.out.size)
    have HR5 : Hid (Nodes w5 a2 R) := HR4.out.below hb5
    clear hb5 HN4 HB4 HR4
    go_wp2_with fail
    refine (sHolds _ _ L c HN5.out).mono ?_
    unfold vRes
    rw [HX.out]
    simp only [Option.getD_some, Option.isSome_some]
    rintro e w6 ⟨rfl, hb6⟩
    have HN6 : Hid (Nodes w6 (some ⟨g, 0, none⟩) L) := HN5.out.below hb6
    have HB6 : Hid (Below w.heap.size w w6) := HB5.out.trans (hb6.mono HB5.out.size)
    have HR6 : Hid (Nodes w6 a2 R) := HR5.out.below hb6
    clear hb6 HN5 HB5 HR5
    have hxx : (X == X) = true := by simp
    have hvv : (((varsL L).length : Int) == ((varsL L).length : Int)) = true := by simp
    have hll : (levelL L == levelL L) = true := by simp
    by_cases huv : u = v
    · have HBO : Hid ((renO R u v).length ≤ 80) := Nat.le_trans (renO_le _ _ _) hRl
      have hub : (u == v) = true := by simp [huv]
      clear huv
      go_wp2_with fail
      refine (iRename HTO.out _ _ R c2 u v HR6.out HCR.out (by omega)).mono ?_
      generalize renOk R u v = bk
      generalize renO R u v = B at HBO ⊢
      rintro e w7 ⟨⟨a7, c7, rfl, -, -⟩, hb7⟩
      have HN7 : Hid (Nodes w7 (some ⟨g, 0, none⟩) L) := HN6.out.below hb7
      have HB7 : Hid (Below w.heap.size w w7) := HB6.out.trans (hb7.mono HB6.out.size)
      have HR7 : Hid (Nodes w7 a2 R) := HR6.out.below hb7
      clear hb7 HN6 HB6 HR6
      go_wp2_with fail
      refine (iVars HPR.out _ _ R c2 HR7.out HCR.out (by omega)).mono ?_
      rw [HV.out]
      rintro e w8 ⟨⟨a8, c8, rfl, -⟩, hb8⟩
      have HN8 : Hid (Nodes w8 (some ⟨g, 0, none⟩) L) := HN7.out.below hb8
      have HB8 : Hid (Below w.heap.size w w8) := HB7.out.trans (hb8.mono HB7.out.size)
      have HR8 : Hid (Nodes w8 a2 R) := HR7.out.below hb8
      clear hb8 HN7 HB7 HR7
      go_wp2_with fail
      refine (iVars HPR.out _ _ L c HN8.out HCL.out (by omega)).mono ?_
      rintro e w9 ⟨⟨a9, c9, rfl, -⟩, hb9⟩
      have HN9 : Hid (Nodes w9 (some ⟨g, 0, none⟩) L) := HN8.out.below hb9
      have HB9 : Hid (Below w.heap.size w w9) := HB8.out.trans (hb9.mono HB8.out.size)
      have HR9 : Hid (Nodes w9 a2 R) := HR8.out.below hb9
      clear hb9 HN8 HB8 HR8
      go_wp2_with fail
      refine (iLevel HTO.out _ _ R c2 HR9.out HCR.out (by omega)).mono ?_
      rw [HLV.out]
      rintro e w10 ⟨rfl, hb10⟩
      have HN10 : Hid (Nodes w10 (some ⟨g, 0, none⟩) L) := HN9.out.below hb10
      have HB10 : Hid (Below w.heap.size w w10) := HB9.out.trans (hb10.mono HB9.out.size)
      clear hb10 HN9 HB9 HR9
      go_wp2_with fail
      refine (iLevel HTO.out _ _ L c HN10.out HCL.out (by omega)).mono ?_
      rintro e w11 ⟨rfl, hb11⟩
      have HB11 : Hid (Below w.heap.size w w11) := HB10.out.trans (hb11.mono HB10.out.size)
      clear hb11 HN10 HB10
      go_wp2
      go_ret
      exact ⟨rfl, HB11.out⟩
    · have HBO : Hid (renO R u v = L) := by
        show _ = _
        unfold renO
        rw [(HBK.out huv).1, if_pos rfl, (HBK.out huv).2]
      have HBT : Hid (renOk R u v = true) := (HBK.out huv).1
      have hub : (u == v) = false := by simp [huv]
      clear huv
      go_wp2_with fail
      refine (iRename HTO.out _ _ R c2 u v HR6.out HCR.out (by omega)).mono ?_
      rw [HBO.out, HBT.out]
      rintro e w7 ⟨⟨a7, c7, rfl, hw7, -⟩, hb7⟩
      have HN7 : Hid (Nodes w7 (some ⟨g, 0, none⟩) L) := HN6.out.below hb7
      have HB7 : Hid (Below w.heap.size w w7) := HB6.out.trans (hb7.mono HB6.out.size)
      have HR7 : Hid (Nodes w7 a2 R) := HR6.out.below hb7
      have HK7 : Hid (Nodes w7 a7 L) := hw7.nodes
      clear hb7 hw7 HN6 HB6 HR6
      go_wp2_with fail
      refine (iVars HPR.out _ _ R c2 HR7.out HCR.out (by omega)).mono ?_
      rw [HV.out]
      rintro e w8 ⟨⟨a8, c8, rfl, -⟩, hb8⟩
      have HN8 : Hid (Nodes w8 (some ⟨g, 0, none⟩) L) := HN7.out.below hb8
      have HB8 : Hid (Below w.heap.size w w8) := HB7.out.trans (hb8.mono HB7.out.size)
      have HR8 : Hid (Nodes w8 a2 R) := HR7.out.below hb8
      have HK8 : Hid (Nodes w8 a7 L) := HK7.out.below hb8
      clear hb8 HN7 HB7 HR7 HK7
      go_wp2_with fail
      refine (iVars HPR.out _ _ L c HN8.out HCL.out (by omega)).mono ?_
      rintro e w9 ⟨⟨a9, c9, rfl, -⟩, hb9⟩
      have HN9 : Hid (Nodes w9 (some ⟨g, 0, none⟩) L) := HN8.out.below hb9
      have HB9 : Hid (Below w.heap.size w w9) := HB8.out.trans (hb9.mono HB8.out.size)
      have HR9 : Hid (Nodes w9 a2 R) := HR8.out.below hb9
      have HK9 : Hid (Nodes w9 a7 L) := HK8.out.below hb9
      clear hb9 HN8 HB8 HR8 HK8
      go_wp2_with fail
      refine (iLevel HTO.out _ _ R c2 HR9.out HCR.out (by omega)).mono ?_
      rw [HLV.out]
      rintro e w10 ⟨rfl, hb10⟩
      have HN10 : Hid (Nodes w10 (some ⟨g, 0, none⟩) L) := HN9.out.below hb10
      have HB10 : Hid (Below w.heap.size w w10) := HB9.out.trans (hb10.mono HB9.out.size)
      have HK10 : Hid (Nodes w10 a7 L) := HK9.out.below hb10
      clear hb10 HN9 HB9 HR9 HK9
      go_wp2_with fail
      refine (iLevel HTO.out _ _ L c HN10.out HCL.out (by omega)).mono ?_
      rintro e w11 ⟨rfl, hb11⟩
      have HN11 : Hid (Nodes w11 (some ⟨g, 0, none⟩) L) := HN10.out.below hb11
      have HB11 : Hid (Below w.heap.size w w11) := HB10.out.trans (hb11.mono HB10.out.size)
      have HK11 : Hid (Nodes w11 a7 L) := HK10.out.below hb11
      clear hb11 HN10 HB10 HK10
      go_wp2_with fail
      refine (sameNodes _ a7 (some ⟨g, 0, none⟩) L c7 c HK11.out HN11.out).mono ?_
      rintro e w12 ⟨rfl, m, rfl⟩
      go_wp2
      go_ret
      exact ⟨rfl, ⟨HB11.out.os, HB11.out.tape, HB11.out.output, HB11.out.size, HB11.out.block⟩⟩

end Go.Proofs.YtejgcchkhljnjaaGreat.Lnm1

/- Walks of the program's usedOnly and partsAhead. -/
namespace Go.Proofs.YtejgcchkhljnjaaGreat.Pg3
open Go.RowKit
open Nd0 Tm0 Tm5 Pl1 Ap0 Pg1 Pg2
open Ws1 (ret_int ret_bool)
set_option linter.unusedVariables false

def used (n : Nd) : Nd :=
  ⟨n.op, n.w, if numbered n.op then n.k else 0, if 0 < cnt n.op then n.a else 0, if 1 < cnt n.op ∨ quant n.op = true then n.b else 0, if 2 < cnt n.op then n.c else 0⟩

set_option maxHeartbeats 4000000 in
theorem iUsed (n : Nd) (w : World) :
    Calls Tryz.prog 141 #[.agg #[.int .i64 n.op, .int .i64 n.w, .int .i64 n.k, .int .i64 n.a, .int .i64 n.b, .int .i64 n.c]] w fun e w' => e = .returned (.agg #[.int .i64 (used n).op, .int .i64 (used n).w, .int .i64 (used n).k, .int .i64 (used n).a, .int .i64 (used n).b, .int .i64 (used n).c]) ∧ Below w.heap.size w w' := by
  have HU : ∀ m : Nd, m = used n → Hid (m = used n) := fun m h => h
  have hc3 := cnt_le n.op
  have HC : Hid (cnt n.op = 0 ∨ cnt n.op = 1 ∨ cnt n.op = 2 ∨ cnt n.op = 3) := by show _ ∨ _; omega
  have HV : Hid (used n = ⟨n.op, n.w, if numbered n.op then n.k else 0, if 0 < cnt n.op then n.a else 0, if 1 < cnt n.op ∨ quant n.op = true then n.b else 0, if 2 < cnt n.op then n.c else 0⟩) := rfl
  clear HU hc3
  generalize used n = u at HV ⊢
  cases hn : numbered n.op <;> cases hq : quant n.op <;> rcases HC.out with hc | hc | hc | hc
  all_goals
    have HN : Hid (numbered n.op = _) := hn
    have HQ : Hid (quant n.op = _) := hq
    have HK : Hid (cnt n.op = _) := hc
    go_enter Tryz.func141, Tryz.ntmps141
    go_wp2_with (first | (go_at_call 144; refine (iCount _ _).mono ?_; rintro e w' ⟨rfl, rfl⟩; rw [hc]) | (go_at_call 162; refine (iNumbered _ _).mono ?_; rintro e w' ⟨rfl, rfl⟩; rw [hn]) | (go_at_call 97; refine (iQuant _ _).mono ?_; rintro e w' ⟨rfl, rfl⟩; rw [hq]))
    refine bodyPost_ret (v := .agg #[.int .i64 u.op, .int .i64 u.w, .int .i64 u.k, .int .i64 u.a, .int .i64 u.b, .int .i64 u.c]) ?_ rfl ⟨rfl, ?_⟩
    · have h9 := HV.out
      rw [HN.out, HQ.out, HK.out] at h9
      simp at h9
      subst h9
      simp [results, Tryz.results141, go_sem]
    · exact (((Below.refl _ _).alloc (Nat.le_refl _) _).alloc (by simp) _).alloc (by simp; omega) _

def pahead (n : Nd) (i : Int) : Bool := (parts n).all fun p => decide (0 ≤ p ∧ p < i)

set_option maxHeartbeats 1000000 in
theorem iAhead (n : Nd) (i : Int) (w : World) :
    Calls Tryz.prog 142 #[.agg #[.int .i64 n.op, .int .i64 n.w, .int .i64 n.k, .int .i64 n.a, .int .i64 n.b, .int .i64 n.c], .int .i64 i] w fun e w' => e = .returned (.bool (pahead n i)) ∧ Below w.heap.size w w' := by
  go_enter Tryz.func142, Tryz.ntmps142
  go_wp2_with fail
  refine (iParts n _).mono ?_
  rintro e w1 ⟨⟨pa, pc, rfl, hpi⟩, hb1⟩
  have HP : Hid (Ints w1 pa (parts n)) := hpi.ints
  have HB1 : Hid (Below w.heap.size w w1) := ((Below.refl _ _).alloc (Nat.le_refl _) _).trans (hb1.mono (by simp))
  have hpl := parts_le n
  clear hpi hb1
  go_wp2_with fail
  go_loop [10] (fun q => ∃ k : Nat, k ≤ (parts n).length ∧ q = .int .i64 k ∧ ∀ j (h : j < (parts n).length), j < k → 0 ≤ (parts n)[j] ∧ (parts n)[j] < i) (fun q => (parts n).length - (intOf q).toNat)
  case atStart => exact ⟨0, Nat.zero_le _, rfl, fun j _ hj => by omega⟩
  case round =>
    obtain ⟨k, hk, rfl, hall⟩ := hrel
    have HA : Hid (∀ j (h : j < (parts n).length), j < k → 0 ≤ (parts n)[j] ∧ (parts n)[j] < i) := hall
    clear hall
    by_cases hlt : k < (parts n).length
    · have hlz : (k : Int) < ((parts n).length : Int) := by omega
      rcases HP.out.2 with h0 | ⟨pb, po, rfl, hpc⟩
      · omega
      have pk := hpc k hlt
      clear hpc
      have HBAD : Hid (¬ (0 ≤ (parts n)[k] ∧ (parts n)[k] < i) → pahead n i = false) := by
        show _ → _
        intro h
        unfold pahead
        rw [List.all_eq_false]
        exact ⟨_, List.getElem_mem hlt, by simpa using h⟩
      have HEQ : Hid (∀ x : Int, x = (parts n)[k] → (0 ≤ x ∧ x < i) → ∀ j (h : j < (parts n).length), j < k + 1 → 0 ≤ (parts n)[j] ∧ (parts n)[j] < i) := by
        show ∀ _, _
        intro x hx hxi j h hj
        by_cases e : j = k
        · subst e; subst hx; exact hxi
        · exact HA.out j h (by omega)
      obtain ⟨x, hx⟩ : ∃ x : Int, x = (parts n)[k] := ⟨_, rfl⟩
      rw [← hx] at pk HBAD
      have HX : Hid (x = (parts n)[k]) := hx
      clear hx
      by_cases h1 : x < 0
      · go_wp2
        go_ret
        exact ⟨ret_bool (HBAD.out (by omega)).symm, HB1.out⟩
      · by_cases h2 : i ≤ x
        · go_wp2
          go_ret
          exact ⟨ret_bool (HBAD.out (by omega)).symm, HB1.out⟩
        · go_wp2
          go_round
          case rel => exact ⟨k + 1, by omega, by go_num, HEQ.out x HX.out ⟨by omega, by omega⟩⟩
          case measure => simp [intOf]; omega
    · have HT : Hid (pahead n i = true) := by
        show pahead n i = true
        unfold pahead
        rw [List.all_eq_true]
        intro p hp
        obtain ⟨j, hj, rfl⟩ := List.getElem_of_mem hp
        simpa using HA.out j hj (by omega)
      go_wp2
      go_ret
      exact ⟨ret_bool HT.out.symm, HB1.out⟩

end Go.Proofs.YtejgcchkhljnjaaGreat.Pg3
