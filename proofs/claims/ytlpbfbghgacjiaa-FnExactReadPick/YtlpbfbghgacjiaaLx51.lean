/- The exact law of ReadPick. Written by tools/mkpx2.py. -/
import Derived.Deep.CutBlock
import Derived.Test.YtlpbfbghgacjiaaWp6
namespace Go.Proofs.Ytlpbfbghgacjiaa.Lx51
open Go.RowKit
open Nd0 (Kept Ints IntsIn Ats marks marks_length lt_of_cell)
open Ss1 (tl tl_length bs_tl)
open Ss0 (bs)
open Wp0 Wp1 Wp3 Wp5 Wp6
set_option linter.unusedVariables false

theorem bRead (S : ByteArray) (hS : S.size ≤ 1048576) : ∃ (l : List Int) (v : Int) (ok : Bool), l.length ≤ 12 ∧ (∀ W, Calls Try.prog 37 #[.string S] W (RdOut W l v ok)) ∧ (∀ W, (∃ m, W.cell? ⟨0, 0, none⟩ = some (.int .i64 m)) → Calls Try.prog 38 #[.string S] W (RdOut W l v ok)) := by
  by_cases h : ∃ l v, okT (tl S) l v
  · obtain ⟨l, v, h⟩ := h
    obtain ⟨p1, p2, p3⟩ := okT_P h
    obtain ⟨m1, m2⟩ := okT_M h
    have hlen := okT_len h
    have hm : okM (tl S) = true := by
      unfold okM
      exact decide_eq_true ⟨⟨hlen.1, by omega⟩, by rw [m1, m2]; exact ok_pk h⟩
    have hl : l.length ≤ 12 := by
      have hp := h.1
      unfold pkB at hp
      exact (val_mem (Bool.and_eq_true_iff.1 hp).1).2
    refine ⟨l, v, true, hl, fun W => (sReadPick S W hS).mono fun e w' hr => ?_, fun W hx => (iReadPick S W hS hx).mono fun e w' hr => ?_⟩
    · unfold RdM at hr
      rw [hm, if_pos rfl, m1, m2] at hr
      exact hr
    · unfold RdP at hr
      rw [p1, if_pos rfl, p2, p3] at hr
      exact hr
  · have hm : okM (tl S) = false := by
      rw [Bool.eq_false_iff]
      intro e
      unfold okM at e
      have e2 := of_decide_eq_true e
      exact h ⟨_, _, pk_ok (by omega) e2.2⟩
    have hp : okP (tl S) = false := by
      rw [Bool.eq_false_iff]
      intro e
      exact h ⟨_, _, readP_ok e⟩
    refine ⟨[], 0, false, Nat.zero_le _, fun W => (sReadPick S W hS).mono fun e w' hr => ?_, fun W hx => (iReadPick S W hS hx).mono fun e w' hr => ?_⟩
    · unfold RdM at hr
      rw [hm, if_neg (by simp)] at hr
      exact hr
    · unfold RdP at hr
      rw [hp, if_neg (by simp)] at hr
      exact hr

set_option maxRecDepth 100000 in
set_option maxHeartbeats 4000000 in
theorem exReadPick (w : World) (S : ByteArray) (hS : S.size ≤ maxLen) (hm : ∃ m, w.cell? ⟨0, 0, none⟩ = some (.int .i64 m)) :
    Calls Try.prog 8 #[.string S] w fun e w' => e = .returned (.bool true) ∧ Below w.heap.size w w' := by
  have HMX : Hid (∃ m, w.cell? ⟨0, 0, none⟩ = some (.int .i64 m)) := hm
  clear hm
  by_cases hs : (1048576 : Int) < (S.size : Int)
  · go_enter Try.func8, Try.ntmps8
    go_wp2
    go_ret
    exact ⟨rfl, Below.refl _ _⟩
  obtain ⟨l, v, ok, hl, hsp, him⟩ := bRead S (by omega)
  have HSP : Hid _ := hsp
  have HIM : Hid (∀ W, Below w.heap.size w W → Calls Try.prog 38 #[.string S] W (RdOut W l v ok)) := fun W hb => him W (by obtain ⟨m, hm⟩ := HMX.out; exact ⟨m, by rw [hb.cell (p := ⟨_, 0, none⟩) (lt_of_cell hm)]; exact hm⟩)
  have HL : Hid (l.length ≤ 1048576) := by show _ ≤ _; omega
  clear hsp him hl
  have hok : (ok != ok) = false := by cases ok <;> rfl
  obtain ⟨y0, hy0⟩ : ∃ y, y = w := ⟨_, rfl⟩
  have HB0 : Hid (Below w.heap.size w y0) := by rw [hy0]; exact Below.refl _ _
  go_enter Try.func8, Try.ntmps8
  rw [← hy0]
  have HW0 : Hid (y0 = w) := hy0
  clear hy0
  go_wp2_with fail
  refine (HSP.out _).mono ?_
  rintro e y1 ⟨wa, wc, rfl, hin, hb⟩
  have HRN : Hid (IntsIn y1 y0.heap.size y1.heap.size wa l) := hin
  clear hin
  obtain ⟨U0, hlo⟩ : ∃ q, q = y0.heap.size := ⟨_, rfl⟩
  obtain ⟨U1, hhi⟩ : ∃ q, q = y1.heap.size := ⟨_, rfl⟩
  rw [← hlo, ← hhi] at HRN
  have hU0U1 : U0 ≤ U1 := by rw [hlo, hhi]; exact hb.size
  have hU0w : w.heap.size ≤ U0 := by rw [hlo]; exact HB0.out.size
  have HU0e : Hid (U0 = y0.heap.size) := hlo
  have HU1e : Hid (U1 = y1.heap.size) := hhi
  clear hlo hhi
  have HB1 : Hid (Below w.heap.size w y1) := HB0.out.trans (hb.mono HB0.out.size)
  clear hb HB0
  have RW1 : Hid (IntsIn y1 U0 U1 wa l) := HRN.out
  clear HRN
  go_upto_region 4 with fail
  obtain ⟨y2, hy⟩ : ∃ y, y = y1.alloc (.cells #[.slice wa l.length wc, .int .i64 v] 60) := ⟨_, rfl⟩
  obtain ⟨qw, hq⟩ : ∃ q, q = y1.heap.size := ⟨_, rfl⟩
  rw [← hy, ← hq]
  have HNB : Hid (Pb y2 qw wa l.length wc v) := by rw [hy, hq]; exact Pb.made _ _ _ _ _ _
  have hb : Below y1.heap.size y1 y2 := by rw [hy]; exact (Below.refl _ _).alloc (Nat.le_refl _) _
  have Hqwe : Hid (y2.heap.size = qw + 1) := by show _ = _; rw [hy, hq]; simp
  have hqwU1 : qw ≤ U1 := by rw [hq, HU1e.out]; exact Nat.le_refl _
  have hU1qw : U1 ≤ qw := by rw [hq, HU1e.out]; exact Nat.le_refl _
  clear hy hq
  have HB2 : Hid (Below w.heap.size w y2) := HB1.out.trans (hb.mono HB1.out.size)
  have RW2 : Hid (IntsIn y2 U0 U1 wa l) := RW1.out.kept (S := fun _ => False) (Kept.ofBelow hb) (fun _ _ _ h => h)
  clear hb RW1 HB1
  have HW2 : Hid (Pb y2 qw wa l.length wc v) := HNB.out
  clear HNB
  go_wp2_with fail
  refine (HIM.out _ HB2.out).mono ?_
  rintro e y3 ⟨ga, gc, rfl, hin, hb⟩
  have HRN : Hid (IntsIn y3 y2.heap.size y3.heap.size ga l) := hin
  clear hin
  obtain ⟨U2, hlo⟩ : ∃ q, q = y2.heap.size := ⟨_, rfl⟩
  obtain ⟨U3, hhi⟩ : ∃ q, q = y3.heap.size := ⟨_, rfl⟩
  rw [← hlo, ← hhi] at HRN
  have hU2U3 : U2 ≤ U3 := by rw [hlo, hhi]; exact hb.size
  have hU2w : w.heap.size ≤ U2 := by rw [hlo]; exact HB2.out.size
  have HU2e : Hid (U2 = y2.heap.size) := hlo
  have HU3e : Hid (U3 = y3.heap.size) := hhi
  clear hlo hhi
  have HB3 : Hid (Below w.heap.size w y3) := HB2.out.trans (hb.mono HB2.out.size)
  have HW3 : Hid (Pb y3 qw wa l.length wc v) := HW2.out.below hb
  have RW3 : Hid (IntsIn y3 U0 U1 wa l) := RW2.out.kept (S := fun _ => False) (Kept.ofBelow hb) (fun _ _ _ h => h)
  clear hb HW2 RW2 HB2
  have RG3 : Hid (IntsIn y3 U2 U3 ga l) := HRN.out
  clear HRN
  go_upto_region 5 with fail
  obtain ⟨y4, hy⟩ : ∃ y, y = y3.alloc (.cells #[.slice ga l.length gc, .int .i64 v] 60) := ⟨_, rfl⟩
  obtain ⟨qg, hq⟩ : ∃ q, q = y3.heap.size := ⟨_, rfl⟩
  rw [← hy, ← hq]
  have HNB : Hid (Pb y4 qg ga l.length gc v) := by rw [hy, hq]; exact Pb.made _ _ _ _ _ _
  have hb : Below y3.heap.size y3 y4 := by rw [hy]; exact (Below.refl _ _).alloc (Nat.le_refl _) _
  have Hqge : Hid (y4.heap.size = qg + 1) := by show _ = _; rw [hy, hq]; simp
  have hqgU3 : qg ≤ U3 := by rw [hq, HU3e.out]; exact Nat.le_refl _
  have hU3qg : U3 ≤ qg := by rw [hq, HU3e.out]; exact Nat.le_refl _
  clear hy hq
  have HB4 : Hid (Below w.heap.size w y4) := HB3.out.trans (hb.mono HB3.out.size)
  have HW4 : Hid (Pb y4 qw wa l.length wc v) := HW3.out.below hb
  have RW4 : Hid (IntsIn y4 U0 U1 wa l) := RW3.out.kept (S := fun _ => False) (Kept.ofBelow hb) (fun _ _ _ h => h)
  have RG4 : Hid (IntsIn y4 U2 U3 ga l) := RG3.out.kept (S := fun _ => False) (Kept.ofBelow hb) (fun _ _ _ h => h)
  clear hb HW3 RW3 RG3 HB3
  have HG4 : Hid (Pb y4 qg ga l.length gc v) := HNB.out
  clear HNB
  have hn1 : qw + 1 ≤ U2 := by rw [HU2e.out, Hqwe.out]; exact Nat.le_refl _
  clear HU0e HU1e HU2e HU3e Hqwe Hqge
  obtain ⟨a0, a1⟩ := HG4.out
  have a9 := HG4.out.lt
  obtain ⟨b0, b1⟩ := HW4.out
  have b9 := HW4.out.lt
  go_wp2_with fail
  clear a0 a1 a9 b0 b1 b9
  refine (eqPick _ _ _ l _ _ v RG4.out.wints.ints RW4.out.wints.ints).mono ?_
  rintro e y5 ⟨rfl, hb⟩
  have HB5 : Hid (Below w.heap.size w y5) := HB4.out.trans (hb.mono HB4.out.size)
  have HW5 : Hid (Pb y5 qw wa l.length wc v) := HW4.out.below hb
  have HG5 : Hid (Pb y5 qg ga l.length gc v) := HG4.out.below hb
  have RW5 : Hid (IntsIn y5 U0 U1 wa l) := RW4.out.kept (S := fun _ => False) (Kept.ofBelow hb) (fun _ _ _ h => h)
  have RG5 : Hid (IntsIn y5 U2 U3 ga l) := RG4.out.kept (S := fun _ => False) (Kept.ofBelow hb) (fun _ _ _ h => h)
  clear hb HW4 HG4 RW4 RG4 HB4
  obtain ⟨a0, a1⟩ := HG5.out
  have a9 := HG5.out.lt
  go_wp2_with fail
  clear a0 a1 a9
  refine (markPick _ U2 _ l _ v RG5.out.wints HL.out).mono ?_
  rintro e y6 ⟨rfl, hw, hk⟩
  have hin : ∀ b, Ats l.length ga b → U2 ≤ b ∧ b < U3 := fun b hb => RG5.out.ats hb
  have HB6 : Hid (Below w.heap.size w y6) := HB5.out.trans (hk.below (fun b hb => by have := hin b hb; omega) HB5.out.size)
  have HW6 : Hid (Pb y6 qw wa l.length wc v) := HW5.out.kept hk (fun hb => by have := hin _ hb; omega)
  have HG6 : Hid (Pb y6 qg ga l.length gc v) := HG5.out.kept hk (fun hb => by have := hin _ hb; omega)
  have RW6 : Hid (IntsIn y6 U0 U1 wa l) := RW5.out.kept hk (fun b h1 h2 h3 => by have := hin b h3; omega)
  have RG6 : Hid (IntsIn y6 U2 U3 ga (marks l.length 1)) := RG5.out.again hw (by rw [marks_length])
  clear hk hw hin HW5 HG5 RW5 RG5 HB5
  have hq1 : ¬ (1 : Int) + (l.length : Int) < 0 := by omega
  have hq2 : ((1 : Int) + (l.length : Int) != 1 + (l.length : Int)) = false := by simp
  obtain ⟨a0, a1⟩ := HG6.out
  have a9 := HG6.out.lt
  go_wp2_with fail
  clear a0 a1 a9
  refine (heldPick _ _ l.length _ v RG6.out.wints.ints HL.out).mono ?_
  rintro e y7 ⟨rfl, hb⟩
  have HB7 : Hid (Below w.heap.size w y7) := HB6.out.trans (hb.mono HB6.out.size)
  have HW7 : Hid (Pb y7 qw wa l.length wc v) := HW6.out.below hb
  have HG7 : Hid (Pb y7 qg ga l.length gc v) := HG6.out.below hb
  have RW7 : Hid (IntsIn y7 U0 U1 wa l) := RW6.out.kept (S := fun _ => False) (Kept.ofBelow hb) (fun _ _ _ h => h)
  have RG7 : Hid (IntsIn y7 U2 U3 ga (marks l.length 1)) := RG6.out.kept (S := fun _ => False) (Kept.ofBelow hb) (fun _ _ _ h => h)
  clear hb HW6 HG6 RW6 RG6 HB6
  go_wp2_with fail
  refine (HIM.out _ HB7.out).mono ?_
  rintro e y8 ⟨ha, hc, rfl, hin, hb⟩
  have HRN : Hid (IntsIn y8 y7.heap.size y8.heap.size ha l) := hin
  clear hin
  obtain ⟨U4, hlo⟩ : ∃ q, q = y7.heap.size := ⟨_, rfl⟩
  obtain ⟨U5, hhi⟩ : ∃ q, q = y8.heap.size := ⟨_, rfl⟩
  rw [← hlo, ← hhi] at HRN
  have hU4U5 : U4 ≤ U5 := by rw [hlo, hhi]; exact hb.size
  have hU4w : w.heap.size ≤ U4 := by rw [hlo]; exact HB7.out.size
  have HU4e : Hid (U4 = y7.heap.size) := hlo
  have HU5e : Hid (U5 = y8.heap.size) := hhi
  clear hlo hhi
  have HB8 : Hid (Below w.heap.size w y8) := HB7.out.trans (hb.mono HB7.out.size)
  have HW8 : Hid (Pb y8 qw wa l.length wc v) := HW7.out.below hb
  have HG8 : Hid (Pb y8 qg ga l.length gc v) := HG7.out.below hb
  have RW8 : Hid (IntsIn y8 U0 U1 wa l) := RW7.out.kept (S := fun _ => False) (Kept.ofBelow hb) (fun _ _ _ h => h)
  have RG8 : Hid (IntsIn y8 U2 U3 ga (marks l.length 1)) := RG7.out.kept (S := fun _ => False) (Kept.ofBelow hb) (fun _ _ _ h => h)
  clear hb HW7 HG7 RW7 RG7 HB7
  have RH8 : Hid (IntsIn y8 U4 U5 ha l) := HRN.out
  clear HRN
  go_upto_region 16 with fail
  obtain ⟨y9, hy⟩ : ∃ y, y = y8.alloc (.cells #[.slice ha l.length hc, .int .i64 v] 60) := ⟨_, rfl⟩
  obtain ⟨qh, hq⟩ : ∃ q, q = y8.heap.size := ⟨_, rfl⟩
  rw [← hy, ← hq]
  have HNB : Hid (Pb y9 qh ha l.length hc v) := by rw [hy, hq]; exact Pb.made _ _ _ _ _ _
  have hb : Below y8.heap.size y8 y9 := by rw [hy]; exact (Below.refl _ _).alloc (Nat.le_refl _) _
  have Hqhe : Hid (y9.heap.size = qh + 1) := by show _ = _; rw [hy, hq]; simp
  have hqhU5 : qh ≤ U5 := by rw [hq, HU5e.out]; exact Nat.le_refl _
  have hU5qh : U5 ≤ qh := by rw [hq, HU5e.out]; exact Nat.le_refl _
  clear hy hq
  have HB9 : Hid (Below w.heap.size w y9) := HB8.out.trans (hb.mono HB8.out.size)
  have HW9 : Hid (Pb y9 qw wa l.length wc v) := HW8.out.below hb
  have HG9 : Hid (Pb y9 qg ga l.length gc v) := HG8.out.below hb
  have RW9 : Hid (IntsIn y9 U0 U1 wa l) := RW8.out.kept (S := fun _ => False) (Kept.ofBelow hb) (fun _ _ _ h => h)
  have RG9 : Hid (IntsIn y9 U2 U3 ga (marks l.length 1)) := RG8.out.kept (S := fun _ => False) (Kept.ofBelow hb) (fun _ _ _ h => h)
  have RH9 : Hid (IntsIn y9 U4 U5 ha l) := RH8.out.kept (S := fun _ => False) (Kept.ofBelow hb) (fun _ _ _ h => h)
  clear hb HW8 HG8 RW8 RG8 RH8 HB8
  have HH9 : Hid (Pb y9 qh ha l.length hc v) := HNB.out
  clear HNB
  obtain ⟨a0, a1⟩ := HH9.out
  have a9 := HH9.out.lt
  obtain ⟨b0, b1⟩ := HW9.out
  have b9 := HW9.out.lt
  go_wp2_with fail
  clear a0 a1 a9 b0 b1 b9
  refine (eqPick _ _ _ l _ _ v RH9.out.wints.ints RW9.out.wints.ints).mono ?_
  rintro e y10 ⟨rfl, hb⟩
  have HB10 : Hid (Below w.heap.size w y10) := HB9.out.trans (hb.mono HB9.out.size)
  have HW10 : Hid (Pb y10 qw wa l.length wc v) := HW9.out.below hb
  have HG10 : Hid (Pb y10 qg ga l.length gc v) := HG9.out.below hb
  have HH10 : Hid (Pb y10 qh ha l.length hc v) := HH9.out.below hb
  have RW10 : Hid (IntsIn y10 U0 U1 wa l) := RW9.out.kept (S := fun _ => False) (Kept.ofBelow hb) (fun _ _ _ h => h)
  have RG10 : Hid (IntsIn y10 U2 U3 ga (marks l.length 1)) := RG9.out.kept (S := fun _ => False) (Kept.ofBelow hb) (fun _ _ _ h => h)
  have RH10 : Hid (IntsIn y10 U4 U5 ha l) := RH9.out.kept (S := fun _ => False) (Kept.ofBelow hb) (fun _ _ _ h => h)
  clear hb HW9 HG9 HH9 RW9 RG9 RH9 HB9
  obtain ⟨a0, a1⟩ := HG10.out
  have a9 := HG10.out.lt
  go_wp2_with fail
  clear a0 a1 a9
  refine (heldPick _ _ l.length _ v RG10.out.wints.ints HL.out).mono ?_
  rintro e y11 ⟨rfl, hb⟩
  have HB11 : Hid (Below w.heap.size w y11) := HB10.out.trans (hb.mono HB10.out.size)
  have HW11 : Hid (Pb y11 qw wa l.length wc v) := HW10.out.below hb
  have HG11 : Hid (Pb y11 qg ga l.length gc v) := HG10.out.below hb
  have HH11 : Hid (Pb y11 qh ha l.length hc v) := HH10.out.below hb
  have RW11 : Hid (IntsIn y11 U0 U1 wa l) := RW10.out.kept (S := fun _ => False) (Kept.ofBelow hb) (fun _ _ _ h => h)
  have RG11 : Hid (IntsIn y11 U2 U3 ga (marks l.length 1)) := RG10.out.kept (S := fun _ => False) (Kept.ofBelow hb) (fun _ _ _ h => h)
  have RH11 : Hid (IntsIn y11 U4 U5 ha l) := RH10.out.kept (S := fun _ => False) (Kept.ofBelow hb) (fun _ _ _ h => h)
  clear hb HW10 HG10 HH10 RW10 RG10 RH10 HB10
  go_wp2
  go_ret
  exact ⟨rfl, by rw [HW0.out]; exact HB11.out⟩
end Go.Proofs.Ytlpbfbghgacjiaa.Lx51
