/- The law FnMerge. Written by tools/mklk1.py. -/
import Derived.Deep.RegionHeld3
import Derived.Deep.CutBlock
import Derived.Test.YteplffphkakliaaLk0
namespace Go.Proofs.Yteplffphkakliaa.Lk1
open Go.RowKit
open Ta0 Ta1 Ta2 Ta3 Tc2 Tc5 De0 De1 Wv2 Lk0
open Nd0 (Kept set_other set_same lt_of_cell Ints WInts)
open Nd6 (Bools)
open Ap1 (WBools Owb)
open Ap11 (step_bs)
open Dr0 (Bytes)
open Lw4 (lat lbig)
open Td1 (knw knw_same)
open Te1 (iKnown)
open Te4 (iNeeds)
open Dp4 (iDecide)
open Dp6b (iIdleS)
open Dp8 (iMergeK)
open Ddr (drawCase)
open Ss0 (bs bs_size)
set_option linter.unusedVariables false

set_option maxRecDepth 100000 in
set_option maxHeartbeats 8000000 in
theorem lawMerge (w : World) (a : Option Addr) (len cap : Nat) (hb : Bytes w a len) :
    Calls Try.prog 3 #[.slice a len cap] w fun e w' => e = .returned (.bool true) ∧ Below w.heap.size w w' := by
  have HB : Hid (Bytes w a len) := hb
  clear hb
  by_cases hs : 1048576 < len
  · go_enter Try.func3, Try.ntmps3
    go_wp2_with fail
    refine (lbig _ a len cap true (by simp; omega)).mono ?_
    rintro e w' ⟨rfl, rfl⟩
    go_wp2
    go_ret
    exact ⟨rfl, Below.refl _ _⟩
  have hsl : len ≤ 1048576 := by omega
  go_enter Try.func3, Try.ntmps3
  go_wp2_with fail
  refine (lbig _ a len cap false (by simp; omega)).mono ?_
  rintro e w0 ⟨rfl, hw0⟩
  have hw0' := hw0.symm
  clear hw0
  subst hw0'
  go_wp2_with fail
  refine (drawCase _ a len cap HB.out).mono ?_
  rintro e w1 ⟨⟨n, F, row, ra, c, hn, hrn, hnc, rfl, hBo⟩, hb1⟩
  have HBO : Hid (Bools w1 ra row) := hBo
  have HB1 : Hid (Below w.heap.size w w1) := hb1
  have HRN : Hid (row.length = n) := hrn
  clear hBo hb1
  have HDE : Hid (∀ (W : World), Below w1.heap.size w1 W → Calls Try.prog 13 #[.slice ra n c, tv (n : Int) (bs (tab n F))] W fun e w' => e = .returned (.tuple #[.int .i64 ((dc row F).toNat : Int), .bool true]) ∧ Below W.heap.size W w') := fun W h => iDecide n F ra row c W (by omega) HRN.out (HBO.out.below h)
  have HID : Hid (∀ W : World, Calls Try.prog 14 #[.slice ra n c, tv (n : Int) (bs (tab n F))] W fun e w' => (∃ g' c', e = .returned (.slice (some ⟨g', 0, none⟩) (idN n F).length c') ∧ Is w' g' 0 (idN n F)) ∧ Below W.heap.size W w') := fun W => (iIdleS n F ra c W (by omega)).mono fun e w' h => by
    obtain ⟨⟨g', c', he, hw⟩, hb⟩ := h
    rw [idN_int, List.length_map] at he
    refine ⟨⟨g', c', he, fun j hj => ?_⟩, hb⟩
    rw [idN_int] at hw
    rcases hw.2 with h0 | ⟨b, o, hbo, _, hc⟩
    · rw [List.length_map] at h0; omega
    · cases hbo
      have := (hc j (by rw [List.length_map]; exact hj)).1
      rw [this]
      simp
  have HNE : Hid (∀ W : World, Calls Try.prog 15 #[tv (n : Int) (bs (tab n F))] W fun e w' => (∃ a' c', e = .returned (.slice a' (ndTo n F n).length c')) ∧ Below W.heap.size W w') := fun W => (iNeeds n F W (by omega)).mono fun e w' h => by
    obtain ⟨⟨a', c', he, _⟩, hb⟩ := h
    exact ⟨⟨a', c', he⟩, hb⟩
  have hsum : ((idN n F).length : Int) + ((ndTo n F n).length : Int) = (n : Int) := by
    have h := id_nd n n F
    rw [idN_int, List.length_map] at h
    omega
  have hwn : IntKind.i64.wrap (n : Int) = (n : Int) := by rw [IntKind.wrap_i64]; omega
  have hil := idN_len n F
  have hnl := ndTo_le n n F
  have HKN : Hid (n = 0 → ∀ W : World, Calls Try.prog 17 #[tv (n : Int) (bs (tab n F))] W fun e w' => e = .returned (.int .i64 ((dc row F).toNat : Int)) ∧ Below W.heap.size W w') := fun h W => by
    have h2 := iKnown n F W (by omega)
    subst h
    have hr : row = [] := List.eq_nil_of_length_eq_zero HRN.out
    rw [knw_same (fun j hj => by have : j = 0 := (by simpa using hj); rw [this])] at h2
    rw [hr]
    exact h2
  have HMK : Hid (n = 0 → ∀ W : World, Calls Try.prog 16 #[.slice ra n c, tv (n : Int) (bs (tab n F)), .int .i64 0] W fun e w' => e = .returned (.tuple #[tv 0 ByteArray.empty, .bool false]) ∧ Below W.heap.size W w') := fun h W => iMergeK n F ra c 0 W (by omega) (by omega)
  have HMF : Hid (1 ≤ n → ∃ xb xo, ra = some ⟨xb, xo, none⟩ ∧ ∀ k : Nat, k < n → (k = n - 1 ∨ ndB n F k = false) → ∃ tb tc A Bl C U, Mg w1 n (n - 1) c xb xo tb tc k A Bl C (bs (tab n F)) U (dc row F)) := fun h => merge_facts w1 n c F ra row hn h HRN.out hnc HBO.out
  have HIM : Hid (∀ k ∈ idN n F, k < n ∧ ndB n F k = false) := fun k h => idN_mem h
  generalize ndTo n F n = nd at *
  generalize idN n F = I at *
  generalize ndB n F = NB at *
  generalize dc row F = d at *
  generalize bs (tab n F) = S at *
  obtain ⟨W1, hW1⟩ : ∃ W1, W1 = w1.alloc (.cells #[.int .i64 (n : Int), .string S] 26) := ⟨_, rfl⟩
  have HE1 : Hid (w1.alloc (.cells #[.int .i64 (n : Int), .string S] 26) = W1) := hW1.symm
  have HT1 : Hid (Lay W1 w1.heap.size (.int .i64 (n : Int)) (.string S)) := by rw [hW1]; exact Lay.made _ _ _ _
  have HA1 : Hid (Below w1.heap.size w1 W1) := by rw [hW1]; exact (Below.refl _ _).alloc (Nat.le_refl _) _
  clear hW1
  go_upto_region 4 with fail
  rw [HE1.out]
  generalize hq4e : w1.heap.size = q4 at HT1 ⊢
  clear HE1 hq4e
  obtain ⟨x0, x1, _, _⟩ := HT1.out
  go_wp2_with fail
  refine (HDE.out _ HA1.out).mono ?_
  rintro e w2 ⟨rfl, hb⟩
  have HT2 : Hid (Lay w2 q4 (.int .i64 (n : Int)) (.string S)) := HT1.out.below hb
  have HA2 : Hid (Below w1.heap.size w1 w2) := HA1.out.trans (hb.mono HA1.out.size)
  clear hb x0 x1 HT1 HA1 HDE
  obtain ⟨x0, x1, _, _⟩ := HT2.out
  go_wp2_with fail
  refine (HID.out _).mono ?_
  rintro e w3 ⟨⟨gi, ci, rfl, hI⟩, hb⟩
  have HT3 : Hid (Lay w3 q4 (.int .i64 (n : Int)) (.string S)) := HT2.out.below hb
  have HA3 : Hid (Below w1.heap.size w1 w3) := HA2.out.trans (hb.mono HA2.out.size)
  have HI3 : Hid (Is w3 gi 0 I) := hI
  clear hb hI x0 x1 HT2 HA2 HID
  go_wp2_with fail
  have DX : Lay w3.drew q4 (.int .i64 (n : Int)) (.string S) := HT3.out.kept (S := fun _ => False) (Kept.refl _ _).drew (fun h => h)
  have HBD : Hid (Below w1.heap.size w1 w3.drew) := HA3.out.drew
  go_region_held3 (fun w' => w'.cell? ⟨q4, 0, none⟩ = some (.int .i64 (n : Int)) ∧ w'.cell? ⟨q4, 1, none⟩ = some (.string S)) ((first | exact ⟨EX.c0, EX.c1⟩ | exact ⟨DX.c0, DX.c1⟩)) ((go_at_call 15; refine (HNE.out _).mono ?_; rintro e w4 ⟨⟨an, cn, rfl⟩, hb⟩; have EX := DX.below hb; have HA4 : Hid (Below w1.heap.size w1 w4) := HBD.out.trans (hb.mono HBD.out.size); have HI4 : Hid (Is w4 gi 0 I) := (fun j hj => by rw [hb.cell (lt_of_cell (HI3.out j hj))]; exact HI3.out j hj); clear hb))
  all_goals
    have HT4 : Hid (Lay w4 q4 (.int .i64 (n : Int)) (.string S)) := EX
    clear DX EX HBD HNE HI3 HT3 HA3
    obtain ⟨x0, x1, _, _⟩ := HT4.out
    by_cases hn0 : n = 0
    · have hn0b : ((n : Int) == 0) = true := by rw [hn0]; rfl
      have HK0 : Hid _ := HKN.out hn0
      have HM0 : Hid _ := HMK.out hn0
      clear hn0
      go_wp2_with fail
      refine (HM0.out _).mono ?_
      rintro e w5 ⟨rfl, hb⟩
      obtain ⟨W5, hW5⟩ : ∃ W5, W5 = w5.alloc (.cells #[.int .i64 0, .string ByteArray.empty] 26) := ⟨_, rfl⟩
      have HT5 : Hid (Lay W5 q4 (.int .i64 (n : Int)) (.string S)) := by rw [hW5]; exact (HT4.out.below hb).alloc _
      have HA5 : Hid (Below w1.heap.size w1 W5) := by rw [hW5]; exact (HA4.out.trans (hb.mono HA4.out.size)).alloc (Nat.le_trans HA4.out.size hb.size) _
      have HE5 : Hid (w5.alloc (.cells #[.int .i64 0, .string ByteArray.empty] 26) = W5) := hW5.symm
      clear hb hW5 x0 x1
      go_upto_region 10 with fail
      rw [HE5.out]
      obtain ⟨x0, x1, _, _⟩ := HT5.out
      go_wp2_with fail
      refine (HK0.out _).mono ?_
      rintro e w6 ⟨rfl, hb⟩
      have HA6 : Hid (Below w1.heap.size w1 w6) := HA5.out.trans (hb.mono HA5.out.size)
      clear hb
      have hdd : ((d.toNat : Int) == (d.toNat : Int)) = true := beq_self_eq_true _
      go_wp2
      go_ret
      exact ⟨rfl, HB1.out.trans (HA6.out.mono HB1.out.size)⟩
    obtain ⟨xb, xo, rfl, hMF⟩ := HMF.out (by omega)
    have HMG : Hid (∀ k : Nat, k < n → (k = n - 1 ∨ NB k = false) → ∃ tb tc A Bl C U, Mg w1 n (n - 1) c xb xo tb tc k A Bl C S U d) := hMF
    have hn0b : ((n : Int) == 0) = false := beq_eq_false_iff_ne.2 (by omega)
    have hn1 : (n : Int) - 1 = ((n - 1 : Nat) : Int) := by omega
    have HN1 : Hid (1 ≤ n) := by show _ ≤ _; omega
    clear hMF hn0 HMF HKN HMK
    have hn6 : n - 1 ≤ 6 := by omega
    have HLK : Hid (∀ k ∈ [n - 1] ++ I, k < n ∧ (k = n - 1 ∨ NB k = false)) := fun k hk => by
      have := HN1.out
      rcases List.mem_append.1 hk with h | h
      · rw [List.mem_singleton.1 h]; exact ⟨by omega, .inl rfl⟩
      · exact ⟨(HIM.out k h).1, .inr (HIM.out k h).2⟩
    obtain ⟨n1, hn1e⟩ : ∃ n1, n1 = n - 1 := ⟨_, rfl⟩
    rw [← hn1e] at hn1 hn6 HLK HMG
    clear hn1e
    obtain ⟨L, hL⟩ : ∃ L, L = [n1] ++ I := ⟨_, rfl⟩
    have HLA : Hid ([n1] ++ I = L) := hL.symm
    rw [← hL] at HLK
    have hLl : L.length ≤ 7 := by rw [hL]; simp; omega
    clear hL
    have HOA : Hid (OwI (w4.alloc (.cells #[.int .i64 (n1 : Int)] 3)) w4.heap.size (.slice (some ⟨w4.heap.size, 0, none⟩) [n1].length 1) [n1]) := OwI.one w4 w4.heap.size n1 (Nat.le_refl _)
    have HUA : Hid (Is (w4.alloc (.cells #[.int .i64 (n1 : Int)] 3)) gi 0 I) := Is.kept HI4.out (S := fun _ => False) ((Kept.refl _ _).alloc _) (fun e => e)
    have HBA : Hid (Below w4.heap.size w4 (w4.alloc (.cells #[.int .i64 (n1 : Int)] 3))) := (Below.refl _ _).alloc (Nat.le_refl _) _
    have hlen1 : [n1].length + I.length ≤ 1048577 := by simp; omega
    go_wp2_with (at_builtin; refine app_is _ (by rfl) _ _ (by rfl) w4.heap.size w4.heap.size 1 gi 0 ci [n1] I (by rfl) (by rfl) HOA.out HUA.out HBA.out.size hlen1 L HLA.out ?_; intro g6 cp6 w7 ho6 hk6 hg6; have HO6 : Hid (OwI w7 w4.heap.size (.slice (some ⟨g6, 0, none⟩) L.length cp6) L) := ho6; have HB6 : Hid (Below w4.heap.size w4 w7) := HBA.out.trans (hk6.below (fun k e => by omega) HBA.out.size); clear ho6 hk6 hg6)
    have HT7 : Hid (Lay w7 q4 (.int .i64 (n : Int)) (.string S)) := HT4.out.below HB6.out
    have HA7 : Hid (Below w1.heap.size w1 w7) := HA4.out.trans (HB6.out.mono HA4.out.size)
    have HIs : Hid (Is w7 g6 0 L) := HO6.out.us
    clear HO6 HB6 HOA HUA HBA HI4 x0 x1
    go_loopw [11] (fun i wr => ∃ j : Nat, j ≤ L.length ∧ i = .int .i64 j ∧ Below w7.heap.size w7 wr) (fun i _ => L.length - (intOf i).toNat)
    case atStart => exact ⟨0, Nat.zero_le _, rfl, Below.refl _ _⟩
    case round =>
      obtain ⟨j, hj, rfl, hbr⟩ := hrel
      have HBR : Hid (Below w7.heap.size w7 wr) := hbr
      have HTR : Hid (Lay wr q4 (.int .i64 (n : Int)) (.string S)) := HT7.out.below hbr
      have HAR : Hid (Below w1.heap.size w1 wr) := HA7.out.trans (hbr.mono HA7.out.size)
      clear hbr
      by_cases hjl : j < L.length
      · have hjz : (j : Int) < (L.length : Int) := by omega
        have p0 : wr.cell? ⟨g6, j, none⟩ = some (.int .i64 ((L[j] : Nat) : Int)) := by
          have h := HIs.out j hjl
          rw [Nat.zero_add] at h
          rw [HBR.out.cell (lt_of_cell h)]; exact h
        obtain ⟨hk1, hk2⟩ := HLK.out L[j] (List.getElem_mem hjl)
        generalize L[j] = k at *
        obtain ⟨tb, tc, A, Bl, C, U, hG⟩ := HMG.out k hk1 hk2
        have HG : Hid (Mg w1 n n1 c xb xo tb tc k A Bl C S U d) := hG
        have hsa := hG.sa
        have hsb := hG.sb
        have hk6 : k ≤ 6 := by omega
        have hwk : IntKind.i64.wrap ((k : Int) + 1) = (k : Int) + 1 := by rw [IntKind.wrap_i64] <;> omega
        clear hG hk1 hk2
        obtain ⟨x0, x1, _, _⟩ := HTR.out
        go_wp2_with fail
        refine (HG.out.mg _ HAR.out).mono ?_
        rintro e w8 ⟨rfl, hb⟩
        obtain ⟨WM, hWM⟩ : ∃ WM, WM = w8.alloc (.cells #[.int .i64 (n1 : Int), .string U] 26) := ⟨_, rfl⟩
        have HLM : Hid (Lay WM w8.heap.size (.int .i64 (n1 : Int)) (.string U)) := by rw [hWM]; exact Lay.made _ _ _ _
        have HBRM : Hid (Below wr.heap.size wr WM) := by rw [hWM]; exact hb.alloc hb.size _
        have HBM : Hid (Below w1.heap.size w1 WM) := HAR.out.trans (HBRM.out.mono HAR.out.size)
        have HEM : Hid (w8.alloc (.cells #[.int .i64 (n1 : Int), .string U] 26) = WM) := hWM.symm
        clear hb hWM x0 x1 p0
        go_upto_region 17 with fail
        rw [HEM.out]
        generalize hq13 : w8.heap.size = q13 at *
        clear hq13 HEM
        refine wp_region_held_drew (S := fun _ => True) (by kernel_rfl) trivial (fun hHeld => ?_)
        refine wpAnyH_take (i := 1) (v := ?_) rfl (by kernel_rfl) (by kernel_rfl) (by kernel_rfl) (fun _ _ _ h => h) (Or.inl ⟨by rfl, ?_⟩) hHeld ?_
        rotate_left
        · (intro v9 hS9; go_simp; try with_reducible rfl)
        try simp only [Act.put, List.setIfInBounds_toArray, List.set_cons_zero, List.set_cons_succ, List.getElem_toArray, List.getElem_cons_zero, List.getElem_cons_succ]
        refine wpAnyH_take (i := 2) (v := ?_) rfl (by kernel_rfl) (by kernel_rfl) (by kernel_rfl) (fun _ _ _ h => h) (Or.inl ⟨by rfl, ?_⟩) hHeld ?_
        rotate_left
        · (intro v9 hS9; go_simp; try with_reducible rfl)
        try simp only [Act.put, List.setIfInBounds_toArray, List.set_cons_zero, List.set_cons_succ, List.getElem_toArray, List.getElem_cons_zero, List.getElem_cons_succ]
        refine wpAnyH_take (i := 3) (v := ?_) rfl (by kernel_rfl) (by kernel_rfl) (by kernel_rfl) (fun _ _ _ h => h) (Or.inl ⟨by rfl, ?_⟩) hHeld ?_
        rotate_left
        · (intro v9 hS9; go_simp; try with_reducible rfl)
        try simp only [Act.put, List.setIfInBounds_toArray, List.set_cons_zero, List.set_cons_succ, List.getElem_toArray, List.getElem_cons_zero, List.getElem_cons_succ]
        refine wpAnyH_take (i := 5) (v := ?_) rfl (by kernel_rfl) (by kernel_rfl) (by kernel_rfl) (fun _ _ _ h => h) (Or.inl ⟨by rfl, ?_⟩) hHeld ?_
        rotate_left
        · (intro v9 hS9; go_simp; try with_reducible rfl)
        try simp only [Act.put, List.setIfInBounds_toArray, List.set_cons_zero, List.set_cons_succ, List.getElem_toArray, List.getElem_cons_zero, List.getElem_cons_succ]
        refine wpAnyH_take (i := 6) (v := ?_) rfl (by kernel_rfl) (by kernel_rfl) (by kernel_rfl) (fun _ _ _ h => h) (Or.inl ⟨by rfl, ?_⟩) hHeld ?_
        rotate_left
        · (intro v9 hS9; go_simp; try with_reducible rfl)
        try simp only [Act.put, List.setIfInBounds_toArray, List.set_cons_zero, List.set_cons_succ, List.getElem_toArray, List.getElem_cons_zero, List.getElem_cons_succ]
        refine wpAnyH_take (i := 7) (v := ?_) rfl (by kernel_rfl) (by kernel_rfl) (by kernel_rfl) (fun _ _ _ h => h) (Or.inl ⟨by rfl, ?_⟩) hHeld ?_
        rotate_left
        · (intro v9 hS9; go_simp; try with_reducible rfl)
        try simp only [Act.put, List.setIfInBounds_toArray, List.set_cons_zero, List.set_cons_succ, List.getElem_toArray, List.getElem_cons_zero, List.getElem_cons_succ]
        refine wpAnyH_take (i := 8) (v := ?_) rfl (by kernel_rfl) (by kernel_rfl) (by kernel_rfl) (fun _ _ _ h => h) (Or.inl ⟨by rfl, ?_⟩) hHeld ?_
        rotate_left
        · (intro v9 hS9; go_simp; try with_reducible rfl)
        try simp only [Act.put, List.setIfInBounds_toArray, List.set_cons_zero, List.set_cons_succ, List.getElem_toArray, List.getElem_cons_zero, List.getElem_cons_succ]
        refine wpAnyH_ready (rs := [0]) (by kernel_rfl) (by simp) ?_
        refine (AllReadyH.cons rfl (fun K hK => ?_) AllReadyH.nil)
        go_simp
        refine hK.out _ _ trivial (fun hNext => ?_)
        clear hK K hHeld
        have hHeld := hNext
        clear hNext
        try simp only [Act.put, List.setIfInBounds_toArray, List.set_cons_zero, List.set_cons_succ, List.getElem_toArray, List.getElem_cons_zero, List.getElem_cons_succ]
        have HO0 : Hid (Owb ((WM.alloc (.cells #[] 4)).drew) WM.heap.size (.slice (some ⟨WM.heap.size, 0, none⟩) 0 0) []) := (Owb.lit WM _ (Nat.le_refl _)).kept (S := fun _ => False) (Kept.refl _ _).drew (fun _ _ e => e)
        have HBa : Hid (Below WM.heap.size WM ((WM.alloc (.cells #[] 4)).drew)) := ((Below.refl _ WM).alloc (Nat.le_refl _) _).drew
        have HWa : Hid (Below w1.heap.size w1 ((WM.alloc (.cells #[] 4)).drew)) := HBM.out.trans (HBa.out.mono HBM.out.size)
        refine wpAnyH_ready (rs := [4]) (by kernel_rfl) (by simp) ?_
        refine (AllReadyH.cons rfl (fun K hK => ?_) AllReadyH.nil)
        refine step_bs _ (by rfl) _ _ (by rfl) WM.heap.size WM.heap.size 0 xb xo c [] A (by rfl) (by rfl) HO0.out (HG.out.ca _ HWa.out) HBa.out.size (by have := HG.out.la; simp; omega) A (List.nil_append A) ?_
        intro g6 cp6 w6 ho6 hk6 hg6
        have HO6 : Hid (Owb w6 WM.heap.size (.slice (some ⟨g6, 0, none⟩) A.length cp6) A) := ho6
        have HB6 : Hid (Below WM.heap.size WM w6) := HBa.out.trans (hk6.below (fun b e => by omega) HBa.out.size)
        clear ho6 hk6 hg6
        refine hK.out _ _ trivial (fun hNext => ?_)
        clear hK K hHeld
        have hHeld := hNext
        clear hNext
        try simp only [Act.put, List.setIfInBounds_toArray, List.set_cons_zero, List.set_cons_succ, List.getElem_toArray, List.getElem_cons_zero, List.getElem_cons_succ]
        have HW6 : Hid (Below w1.heap.size w1 w6) := HBM.out.trans (HB6.out.mono HBM.out.size)
        refine wpAnyH_ready (rs := [9]) (by kernel_rfl) (by simp) ?_
        refine (AllReadyH.cons rfl (fun K hK => ?_) AllReadyH.nil)
        refine step_bs _ (by rfl) _ _ (by rfl) WM.heap.size g6 cp6 xb tb tc A Bl (by rfl) (by rfl) HO6.out (HG.out.cb _ HW6.out) HB6.out.size (by have := HG.out.lc; rw [← HG.out.ab, List.length_append] at this; omega) C HG.out.ab ?_
        intro g7 cp7 wX ho7 hk7 hg7
        have HO7 : Hid (Owb wX WM.heap.size (.slice (some ⟨g7, 0, none⟩) C.length cp7) C) := ho7
        have HB7 : Hid (Below WM.heap.size WM wX) := HB6.out.trans (hk7.below (fun b e => by have := (HO6.out.lt g6 rfl).1; omega) HB6.out.size)
        clear ho7 hk7 hg7
        refine hK.out _ _ trivial (fun hNext => ?_)
        clear hK K hHeld
        have hHeld := hNext
        clear hNext
        try simp only [Act.put, List.setIfInBounds_toArray, List.set_cons_zero, List.set_cons_succ, List.getElem_toArray, List.getElem_cons_zero, List.getElem_cons_succ]
        refine wpAnyH_take (i := 10) (v := ?_) rfl (by kernel_rfl) (by kernel_rfl) (by kernel_rfl) (fun _ _ _ h => h) (Or.inl ⟨by rfl, ?_⟩) hHeld ?_
        rotate_left
        · (intro v9 hS9; go_simp; try with_reducible rfl)
        try simp only [Act.put, List.setIfInBounds_toArray, List.set_cons_zero, List.set_cons_succ, List.getElem_toArray, List.getElem_cons_zero, List.getElem_cons_succ]
        refine wpAnyH_done (by kernel_rfl) ?_ _
        clear hHeld HO0 HBa HWa HO6 HB6 HW6
        obtain ⟨av, cv, hv, hwb⟩ := HO7.out.form
        injection hv with e1 e2 e3
        subst e1
        have HBo : Hid (Bools wX (some ⟨g7, 0, none⟩) C) := Nd6.WBools.plain hwb
        have HLX : Hid (Lay wX q13 (.int .i64 (n1 : Int)) (.string U)) := HLM.out.below HB7.out
        have HBX : Hid (Below wr.heap.size wr wX) := HBRM.out.trans (HB7.out.mono HBRM.out.size)
        clear hwb e2 e3 hsa hsb
        obtain ⟨x0, x1, _, _⟩ := HLX.out
        go_wp2_with fail
        refine (HG.out.dec _ g7 cp7 HBo.out).mono ?_
        rintro e w9 ⟨rfl, hb⟩
        have HB9 : Hid (Below w7.heap.size w7 w9) := HBR.out.trans ((HBX.out.trans (hb.mono HBX.out.size)).mono HBR.out.size)
        clear hb x0 x1
        have hdd : ((d.toNat : Int) != (d.toNat : Int)) = false := by simp
        go_wp2
        go_roundw
        case rel => exact ⟨j + 1, by omega, by go_num, HB9.out⟩
        case measure => simp [intOf]; omega
      · have hjz : ¬ (j : Int) < (L.length : Int) := by omega
        go_wp2
        go_ret
        exact ⟨rfl, HB1.out.trans (HAR.out.mono HB1.out.size)⟩

end Go.Proofs.Yteplffphkakliaa.Lk1
