/- The program's savedText. Written by tools/mkzs5.py. -/
import Derived.Test.YtmjmnfegaoegjaaGreatDoorZs4
import Derived.Test.YtmjmnfegaoegjaaGreatDoorPkLD15
namespace Go.Proofs.YtmjmnfegaoegjaaGreatDoor.Zs5
open Go.RowKit
open Nd0 (Kept Ints lt_of_cell set_same set_other)
open Tc2 (tv)
open Ss0 (bs bs_size bs_app ret_str)
open Ss1 (tl tl_bs bs_tl)
open Tk0 (TabK keyL)
open Mm0 (Mc Mb Mr Mok mval)
open Qc0 (Sn SnAt Sns)
open Zs0 Zs1 Zs2 Zt0
set_option linter.unusedVariables false

open Zs3 Zs4
open Ap4 Ap5
open Mm2 (mokB)

abbrev rfv (x : ByteArray) : Value := .iface 113 (.agg #[.string x])
def StP (m : Mc) (e : Ending) : Prop := (svB m = true ∧ e = .returned (.tuple #[.string (bs (savT m)), .nilIface])) ∨ (svB m = false ∧ ∃ x, e = .returned (.tuple #[.string ⟨#[]⟩, rfv x]))
theorem sv_ok {m : Mc} (h : mokB m = false) : svB m = false := by unfold svB; rw [h]; rfl
theorem sv_key {m : Mc} {x : Sn} (hx : x ∈ m.memo) (h : plB (tl x.k) = false) : svB m = false := by
  have : keysB m = false := by
    unfold keysB
    rw [List.all_eq_false]
    exact ⟨x, hx, by rw [h]; simp⟩
  unfold svB
  rw [this]
  simp
theorem sv_len {m : Mc} (h : ¬ (savT m).length ≤ 400000) : svB m = false := by unfold svB; rw [decide_eq_false h]; simp
theorem sv_yes {m : Mc} (h0 : mokB m = true) (h1 : ∀ x ∈ m.memo, plB (tl x.k) = true) (h : (savT m).length ≤ 400000) : svB m = true := by
  have : keysB m = true := List.all_eq_true.2 h1
  unfold svB
  rw [h0, this, decide_eq_true h]
  rfl
theorem lit_one (W : World) (x : List UInt8) : ∀ i (h : i < [x].length), (W.alloc (.cells #[.string (bs x)] 9)).cell? ⟨W.heap.size, i, none⟩ = some (.string (bs [x][i])) := by
  intro i hi
  rw [World.cell?_alloc_new]
  have : i = 0 := by simpa using hi
  subst this
  rfl

set_option maxRecDepth 100000 in
set_option maxHeartbeats 8000000 in
theorem iSaved (m : Mc) (ra va ma : Option Addr) (rc vc mc : Nat) (w : World) (hR : Mr w m ra va ma) (hS : m.S.size ≤ 1048576) (hK : ∀ x ∈ m.memo, x.k.size ≤ 1048576) (hT : TabZ w) :
    Calls Tryz.prog 34 #[mval m ra va ma rc vc mc] w fun e w' => StP m e ∧ Below w.heap.size w w' := by
  obtain ⟨X0, hX0⟩ : ∃ X, X = w.alloc (.cells #[.slice ra m.row.length rc, .int .i64 m.N, .string m.S, .int .i64 m.room, .slice va m.vals.length vc, .int .i64 m.ret, .bool m.over, .int .i64 m.steps, .int .i64 m.looks, .int .i64 m.hits, .slice ma m.memo.length mc] 30) := ⟨_, rfl⟩
  have b0 : Below w.heap.size w X0 := by rw [hX0]; exact (Below.refl _ _).alloc (Nat.le_refl _) _
  have HB0 : Hid (Below w.heap.size w X0) := b0
  have HM0 : Hid (Mb X0 w.heap.size m ra va ma rc vc mc) := by rw [hX0]; exact Mb.made _ _ _ _ _ _ _ _ _
  have hE : w.alloc (.cells #[.slice ra m.row.length rc, .int .i64 m.N, .string m.S, .int .i64 m.room, .slice va m.vals.length vc, .int .i64 m.ret, .bool m.over, .int .i64 m.steps, .int .i64 m.looks, .int .i64 m.hits, .slice ma m.memo.length mc] 30) = X0 := hX0.symm
  have HT : Hid (TabZ w) := hT
  have HR : Hid (Mr w m ra va ma) := hR
  have HK : Hid (∀ x ∈ m.memo, x.k.size ≤ 1048576) := hK
  have HMO : Hid (Calls Tryz.prog 13 #[mval m ra va ma rc vc mc] X0 fun e w' => e = .returned (.bool (mokB m)) ∧ Below X0.heap.size X0 w') := Mi4.iMachineOk m ra va ma rc vc mc X0 hS (hR.below b0) (fun x hx => Nat.le_trans (hK x hx) (by unfold maxLen; omega))
  clear hX0 b0 hT hR hK hS
  go_enter Tryz.func34, Tryz.ntmps34
  go_upto_region 1 with fail
  clear hE
  obtain ⟨m0, m1, m2, m3, m4, m5, m6, m7, m8, m9, m10⟩ := HM0.out
  go_wp2_with fail
  clear m0 m1 m2 m3 m4 m5 m6 m7 m8 m9 m10
  refine Calls.mono HMO.out ?_
  rintro e w1 ⟨rfl, hb1⟩
  have HB1 : Hid (Below w.heap.size w w1) := HB0.out.trans (hb1.mono HB0.out.size)
  have HM1 : Hid (Mb w1 w.heap.size m ra va ma rc vc mc) := HM0.out.below hb1
  clear hb1 HB0 HM0 HMO
  cases hmk : mokB m
  · have HF : Hid (svB m = false) := sv_ok hmk
    clear hmk
    go_wp2
    go_ret2
    exact ⟨.inr ⟨HF.out, _, rfl⟩, HB1.out⟩
  have HO : Hid (Mok m) := by show Mok m; unfold mokB at hmk; simpa using hmk
  have HMK : Hid (mokB m = true) := hmk
  have hml : m.memo.length ≤ 40 := by have h1 := HO.out.room; have h2 := HO.out.memo; omega
  clear hmk
  obtain ⟨m0, m1, m2, m3, m4, m5, m6, m7, m8, m9, m10⟩ := HM1.out
  have hwm := HM1.out.lt
  go_wp2
  clear m0 m1 m2 m3 m4 m5 m6 m7 m8 m9 m10 hwm
  go_loopw [17] (fun i wr => ∃ k : Nat, k ≤ m.memo.length ∧ i = .int .i64 k ∧ Below w.heap.size w wr ∧ Mb wr w.heap.size m ra va ma rc vc mc ∧ ∀ j (hj : j < m.memo.length), j < k → plB (tl m.memo[j].k) = true) (fun i _ => m.memo.length - (intOf i).toNat)
  case atStart => exact ⟨0, Nat.zero_le _, rfl, HB1.out, HM1.out, fun j _ h => by omega⟩
  case round =>
    obtain ⟨k, hk, rfl, hbr, hmr, hpl⟩ := hrel
    have HB : Hid (Below w.heap.size w wr) := hbr
    have HM : Hid (Mb wr w.heap.size m ra va ma rc vc mc) := hmr
    have HPL : Hid (∀ j (hj : j < m.memo.length), j < k → plB (tl m.memo[j].k) = true) := hpl
    clear hbr hmr hpl HB1 HM1
    by_cases hlt : k < m.memo.length
    · have hlz : (k : Int) < (m.memo.length : Int) := by omega
      obtain ⟨mb, mo, hma, hsn⟩ : ∃ b o, ma = some ⟨b, o, none⟩ ∧ SnAt wr b (o + k * 2) m.memo[k] := by
        rcases (HR.out.below HB.out).memo.2 with e | ⟨b, o, e, hc⟩
        · omega
        · exact ⟨b, o, e, hc k hlt⟩
      have HKO : Hid (∀ W, Calls Tryz.prog 82 #[.string m.memo[k].k] W fun e w' => e = .returned (.bool (plB (tl m.memo[k].k))) ∧ w' = W) := fun W => iKeyOk m.memo[k].k W (HK.out _ (List.getElem_mem hlt))
      have HNO : Hid (plB (tl m.memo[k].k) = false → svB m = false) := fun h => sv_key (List.getElem_mem hlt) h
      have HYE : Hid (plB (tl m.memo[k].k) = true → ∀ j (hj : j < m.memo.length), j < k + 1 → plB (tl m.memo[j].k) = true) := fun h j hj h2 => by
        by_cases e : j = k
        · subst e; exact h
        · exact HPL.out j hj (by omega)
      obtain ⟨pb, hpb⟩ : ∃ p, p = plB (tl m.memo[k].k) := ⟨_, rfl⟩
      rw [← hpb] at HKO HNO HYE
      obtain ⟨hk0, hk1⟩ := hsn
      obtain ⟨xk, hxk⟩ : ∃ x, x = m.memo[k].k := ⟨_, rfl⟩
      obtain ⟨xr, hxr⟩ : ∃ x, x = m.memo[k].r := ⟨_, rfl⟩
      rw [← hxk] at hk0 HKO
      rw [← hxr] at hk1
      have HMA : Hid (ma = some ⟨mb, mo, none⟩) := hma
      clear hpb hxk hxr hma
      have hml2 : mb < wr.heap.size := lt_of_cell hk0
      have HB2 : Hid (Below w.heap.size w (wr.alloc (.cells #[.string xk, .int .i64 xr] 40))) := HB.out.alloc HB.out.size _
      have HM2 : Hid (Mb (wr.alloc (.cells #[.string xk, .int .i64 xr] 40)) w.heap.size m ra va ma rc vc mc) := HM.out.alloc _
      rw [HMA.out]
      cases pb
      · have HF : Hid (svB m = false) := HNO.out rfl
        go_wp2_with (go_at_call 82; refine (HKO.out _).mono ?_; rintro e w2 ⟨rfl, hw2⟩; have hw2' := hw2.symm; clear hw2; subst hw2')
        go_ret2
        exact ⟨.inr ⟨HF.out, _, rfl⟩, HB2.out⟩
      · have HY2 : Hid _ := HYE.out rfl
        go_wp2_with (go_at_call 82; refine (HKO.out _).mono ?_; rintro e w2 ⟨rfl, hw2⟩; have hw2' := hw2.symm; clear hw2; subst hw2')
        rw [← HMA.out]
        go_roundw
        case rel => exact ⟨k + 1, by omega, by go_num, HB2.out, HM2.out, HY2.out⟩
        case measure => simp [intOf]; omega
    have hlz : ¬ (k : Int) < (m.memo.length : Int) := by omega
    have HPA : Hid (∀ x ∈ m.memo, plB (tl x.k) = true) := fun x hx => by
      obtain ⟨j, hj, rfl⟩ := List.getElem_of_mem hx
      exact HPL.out j hj (by omega)
    have b2 : Below wr.heap.size wr (wr.alloc (.cells #[] 9)) := (Below.refl _ _).alloc (Nat.le_refl _) _
    have HB2 : Hid (Below w.heap.size w (wr.alloc (.cells #[] 9))) := HB.out.trans (b2.mono HB.out.size)
    have HM2 : Hid (Mb (wr.alloc (.cells #[] 9)) w.heap.size m ra va ma rc vc mc) := HM.out.alloc _
    have HO2 : Hid (Ost (wr.alloc (.cells #[] 9)) (w.heap.size + 1) (.slice (some ⟨wr.heap.size, 0, none⟩) 0 0) []) := Ost.lit _ _ (by have := HM.out.lt; omega)
    clear HPL b2
    obtain ⟨m0, m1, m2, m3, m4, m5, m6, m7, m8, m9, m10⟩ := HM.out
    have hwm := HM.out.lt
    have hw7 : wrap64 (7 + (m.memo.length : Int)) = 7 + (m.memo.length : Int) := by unfold wrap64; omega
    go_wp2
    clear m0 m1 m2 m3 m4 m5 m6 m7 m8 m9 m10 hwm hw7 hlt hk hlz
    go_loopw [6, 33] (fun v i wq => ∃ k : Nat, k ≤ 7 + m.memo.length ∧ i = .int .i64 k ∧ (∃ g cp, v = .slice (some ⟨g, 0, none⟩) k cp) ∧ Ost wq (w.heap.size + 1) v (linTo m k) ∧ Below w.heap.size w wq ∧ Mb wq w.heap.size m ra va ma rc vc mc) (fun _ i _ => 7 + m.memo.length - (intOf i).toNat)
    case atStart => exact ⟨0, Nat.zero_le _, rfl, ⟨_, _, rfl⟩, HO2.out, HB2.out, HM2.out⟩
    case round =>
      clear HB2 HM2 HO2 HB HM
      obtain ⟨k, hk, rfl, ⟨g3, cp3, rfl⟩, hor, hbr, hmr⟩ := hrel
      have HBD : Hid (Below w.heap.size w wr.drew) := hbr.drew
      have HB : Hid (Below w.heap.size w wr) := hbr
      have HMD : Hid (Mb wr.drew w.heap.size m ra va ma rc vc mc) := hmr.below (Below.refl _ _).drew
      have HOR : Hid (Ost wr (w.heap.size + 1) (.slice (some ⟨g3, 0, none⟩) k cp3) (linTo m k)) := hor
      have HOD : Hid (Ost wr.drew (w.heap.size + 1) (.slice (some ⟨g3, 0, none⟩) k cp3) (linTo m k)) := Ost.below hor (Below.refl _ _).drew
      clear hor hbr hmr
      by_cases hlt : k < 7 + m.memo.length
      rotate_left
      · have hlz : ¬ (k : Int) < 7 + (m.memo.length : Int) := by omega
        have HJ : Hid (Calls Tryz.prog 85 #[.slice (some ⟨g3, 0, none⟩) k cp3, .string ⟨#[]⟩] wr fun e w' => e = .returned (.string (bs (savT m))) ∧ Below wr.heap.size wr w') := by
          have e : k = 7 + m.memo.length := by omega
          have hh := HOR.out
          have h9 := iJoin (linTo m k) [] g3 cp3 k _ wr hh (by omega) (by
            rw [join_none]
            have := linTo_flat HO.out HK.out k
            have : k * 1048700 ≤ 47 * 1048700 := Nat.mul_le_mul_right _ (by omega)
            omega)
          rw [join_none, show (linTo m k).flatten = savT m by rw [e]; rfl] at h9
          exact h9
        obtain ⟨R, hR⟩ : ∃ R, R = bs (savT m) := ⟨_, rfl⟩
        have HRR : Hid (R = bs (savT m)) := hR
        have hRz : R.size = (savT m).length := by rw [hR, bs_size]
        rw [← hR] at HJ
        clear hR
        go_wp2_with fail
        refine Calls.mono HJ.out ?_
        rintro e w6 ⟨rfl, hb6⟩
        have HB6 : Hid (Below w.heap.size w w6) := HB.out.trans (hb6.mono HB.out.size)
        clear hb6
        by_cases hbig : (400000 : Int) < (R.size : Int)
        · have HF : Hid (svB m = false) := sv_len (by omega)
          clear hRz
          go_wp2
          go_ret2
          exact ⟨.inr ⟨HF.out, _, rfl⟩, HB6.out⟩
        · have HF : Hid (svB m = true) := sv_yes HMK.out HPA.out (by omega)
          clear hRz
          go_wp2
          go_ret2
          exact ⟨.inl ⟨HF.out, by rw [← HRR.out]; rfl⟩, HB6.out⟩
      have hlz : (k : Int) < 7 + (m.memo.length : Int) := by omega
      have hk9 : k ≤ 1048576 := by omega
      have HLN : Hid ((linTo m k).length = k) := linTo_length m k
      obtain ⟨lk, hlk⟩ : ∃ l, lin m k = l := ⟨_, rfl⟩
      have HLK : Hid (lin m k = lk) := hlk
      have HLX : Hid (linTo m k ++ [lk] = linTo m (k + 1)) := by rw [← hlk]; exact (linTo_next m k).symm
      have HK8 : Hid (k < 7 + m.memo.length) := hlt
      clear hlk
      go_wp2_with fail
      refine wp_region_held_drew (S := (fun v => Mb v w.heap.size m ra va ma rc vc mc)) (by kernel_rfl) HMD.out (fun hHeld => ?_)
      refine wpAnyH_take (i := 0) (v := ?_) rfl (by kernel_rfl) (by kernel_rfl) (by kernel_rfl) (fun _ _ _ h => h) (Or.inl ⟨by rfl, ?_⟩) hHeld ?_
      rotate_left
      · (intro v9 hS9; clear hS9; go_simp; try with_reducible rfl)
      try simp only [Act.put, List.setIfInBounds_toArray, List.set_cons_zero, List.set_cons_succ, List.getElem_toArray, List.getElem_cons_zero]
      refine wpAnyH_take (i := 1) (v := ?_) rfl (by kernel_rfl) (by kernel_rfl) (by kernel_rfl) (fun _ _ _ h => h) (Or.inl ⟨by rfl, ?_⟩) hHeld ?_
      rotate_left
      · (intro v9 hS9; clear hS9; go_simp; try with_reducible rfl)
      try simp only [Act.put, List.setIfInBounds_toArray, List.set_cons_zero, List.set_cons_succ, List.getElem_toArray, List.getElem_cons_zero, List.getElem_cons_succ]
      refine wpAnyH_take (i := 3) (v := ?_) rfl (by kernel_rfl) (by kernel_rfl) (by kernel_rfl) (fun _ _ _ h => h) (Or.inl ⟨by rfl, ?_⟩) hHeld ?_
      rotate_left
      · (intro v9 hS9; obtain ⟨z0, z1, z2, z3, z4, z5, z6, z7, z8, z9, z10⟩ := hS9; go_simp; try with_reducible rfl)
      try simp only [Act.put, List.setIfInBounds_toArray, List.set_cons_zero, List.set_cons_succ, List.getElem_toArray, List.getElem_cons_zero, List.getElem_cons_succ]
      refine wpAnyH_ready (rs := [2]) (by kernel_rfl) (by simp) ?_
      refine AllReadyH.cons rfl (fun K hK => ?_) AllReadyH.nil
      go_simp
      go_wp2_with (go_at_call 83; refine (iLineAt k hk9 _).mono ?_; rintro e wa ⟨lv, rfl, hlv, hba⟩; have HMa : Hid (Mb wa w.heap.size m ra va ma rc vc mc) := HMD.out.below hba; have HOa : Hid (Ost wa (w.heap.size + 1) (.slice (some ⟨g3, 0, none⟩) k cp3) (linTo m k)) := Ost.below HOD.out hba; have HBa : Hid (Below w.heap.size w wa) := HBD.out.trans (hba.mono HBD.out.size); have HLV : Hid (LV wa lv k) := hlv; clear hba hlv)
      refine hK.out _ _ HMa.out (fun hNext => ?_)
      clear hK K hHeld
      have hHeld := hNext
      clear hNext
      refine wpAnyH_ready (rs := [4]) (by kernel_rfl) (by simp) ?_
      refine AllReadyH.cons rfl (fun K hK => ?_) AllReadyH.nil
      go_simp
      go_wp2_with (go_at_call 84; refine (iText m ra va ma rc vc mc _ (HR.out.below HBa.out) HO.out HK.out (HT.out.below HBa.out) lv k HK8.out HLV.out).mono ?_; rintro e wb ⟨hre, hbb⟩; rw [HLK.out] at hre; subst hre; have HMb : Hid (Mb wb w.heap.size m ra va ma rc vc mc) := HMa.out.below hbb; have HOb : Hid (Ost wb (w.heap.size + 1) (.slice (some ⟨g3, 0, none⟩) k cp3) (linTo m k)) := Ost.below HOa.out hbb; have HBb : Hid (Below w.heap.size w wb) := HBa.out.trans (hbb.mono HBa.out.size); have hsb : w.heap.size + 1 ≤ wb.heap.size := HMb.out.lt; clear hbb)
      refine hK.out _ _ HMb.out (fun hNext => ?_)
      clear hK K hHeld
      have hHeld := hNext
      clear hNext
      refine wpAnyH_ready (rs := [5]) (by kernel_rfl) (by simp) ?_
      refine AllReadyH.cons rfl (fun K hK => ?_) AllReadyH.nil
      go_simp
      refine hK.out _ _ (HMb.out.alloc _) (fun hNext => ?_)
      clear hK K hHeld
      have hHeld := hNext
      clear hNext
      refine wpAnyH_ready (rs := [6]) (by kernel_rfl) (by simp) ?_
      refine AllReadyH.cons rfl (fun K hK => ?_) AllReadyH.nil
      refine step_app_strs _ rfl _ _ rfl (w.heap.size + 1) (.slice (some ⟨g3, 0, none⟩) k cp3) (linTo m k) [lk] wb.heap.size 1 rfl rfl (lit_one _ _) (by simp) (World.ownsRow.alloc HOb.out _) (by simp; omega) (by rw [HLN.out]; simp; omega) ?_
      intro g cp wz ho hkz9 hg
      rw [HLN.out, HLX.out] at ho
      rw [HLN.out]
      simp only [List.length_cons, List.length_nil, Nat.zero_add] at ho ⊢
      have HOz : Hid (Ost wz (w.heap.size + 1) (.slice (some ⟨g, 0, none⟩) (k + 1) cp) (linTo m (k + 1))) := ho
      have KK : Kept (fun b => (Value.slice (some ⟨g3, 0, none⟩) k cp3).ownBlock = some b) wb wz := ((Kept.refl _ wb).alloc _).trans hkz9
      have HBz : Hid (Below w.heap.size w wz) := HBb.out.trans (KK.below (fun b hb => by have := (HOb.out.lt b hb).1; omega) HBb.out.size)
      have HMz : Hid (Mb wz w.heap.size m ra va ma rc vc mc) := HMb.out.kept KK (fun hb => by have := (HOb.out.lt _ hb).1; omega)
      clear ho hkz9 hg KK
      refine hK.out _ _ HMz.out (fun hNext => ?_)
      clear hK K hHeld
      have hHeld := hNext
      clear hNext
      refine wpAnyH_take (i := 7) (v := ?_) rfl (by kernel_rfl) (by kernel_rfl) (by kernel_rfl) (fun _ _ _ h => h) (Or.inl ⟨by rfl, ?_⟩) hHeld ?_
      rotate_left
      · (intro v9 hS9; clear hS9; go_simp; try with_reducible rfl)
      try simp only [Act.put, List.setIfInBounds_toArray, List.set_cons_zero, List.set_cons_succ, List.getElem_toArray, List.getElem_cons_zero, List.getElem_cons_succ]
      refine wpAnyH_done (by kernel_rfl) ?_ _
      go_wp2
      go_roundw
      case rel => exact ⟨k + 1, by omega, by go_num, ⟨_, _, rfl⟩, HOz.out, HBz.out, HMz.out⟩
      case measure => simp [intOf]; omega
end Go.Proofs.YtmjmnfegaoegjaaGreatDoor.Zs5
