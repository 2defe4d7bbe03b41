/- The law FnIdleQuant. Written by tools/mklfi.py. -/
import Derived.Deep.RegionHeld3
import Derived.Deep.CutBlock
import Derived.Test.YtejoeahehljhnaaGreatPkIQ17
import Derived.Test.YtejoeahehljhnaaGreatPkIQ26
import Derived.Test.YtejoeahehljhnaaGreatPkIQ36
import Derived.Test.YtejoeahehljhnaaGreatPkIQ21
import Derived.Test.YtejoeahehljhnaaGreatPkIQ40
namespace Go.Proofs.YtejoeahehljhnaaGreat.Lfi1
open Go.RowKit
open Nd0 Qa0 Qa2 Tm1 Tm6 Tm11 Fr0 Fr2 Ff0 Fm6 Ap1 Ap14 Fm4
open Dr0 (Bytes)
open Ds1 (drawSaid)
open Lw4 (lbig)
open Lat (lat3)
open Fm1 (quAt iRows)
open Fm7 (sFront)
open Fp7 (IHoldsFront)
open Ws1 (ret_int ret_bool)
set_option linter.unusedVariables false

def useTo (q : List Qu) : Nat → List Bool
  | 0 => List.replicate 8 false
  | i + 1 => (useTo q i).set (qth q i).vr.toNat true
theorem use_len (q : List Qu) : ∀ k, (useTo q k).length = 8 := by
  intro k
  induction k with
  | zero => rfl
  | succ k ih => show ((useTo q k).set _ _).length = 8; rw [List.length_set]; exact ih
theorem use_at {q : List Qu} (hr : ∀ i, i < q.length → 0 ≤ (qth q i).vr ∧ (qth q i).vr ≤ 7) (v : Nat) : ∀ k, k ≤ q.length → ((∃ i, i < k ∧ (qth q i).vr.toNat = v) → flag (useTo q k) v = true) := by
  intro k
  induction k with
  | zero => rintro _ ⟨i, hi, _⟩; omega
  | succ k ih =>
    rintro hk ⟨i, hi, he⟩
    show flag ((useTo q k).set (qth q k).vr.toNat true) v = true
    have := hr k (by omega)
    rw [flag_set (by rw [use_len]; omega)]
    by_cases e : (qth q k).vr.toNat = v
    · rw [if_pos e]
    · rw [if_neg e]
      refine ih (by omega) ⟨i, ?_, he⟩
      by_cases e2 : i = k
      · subst e2; exact absurd he e
      · omega
theorem unused {q : List Qu} (hr : ∀ i, i < q.length → 0 ≤ (qth q i).vr ∧ (qth q i).vr ≤ 7) {v : Nat} (h : flag (useTo q q.length) v = false) : ∀ x ∈ q, x.vr ≠ (v : Int) := by
  intro x hx e
  obtain ⟨i, hi, rfl⟩ := List.mem_iff_getElem.1 hx
  rw [qth_get hi] at e
  have := use_at hr v q.length (Nat.le_refl _) ⟨i, hi, by omega⟩
  rw [h] at this
  cases this
set_option maxRecDepth 100000 in
theorem sl_h (b o n c k : Nat) (h : k ≤ c) (w : World) :
    (Instr.slice 26 (.slice (some ⟨b, o, none⟩) n c) none (some (.int .i64 (k : Int))) none).run Tryz.prog w = .ok (.slice (some ⟨b, o, none⟩) k c) w := by
  rw [run_slice_h w 26 _ _ _ Tryz.underlying26 .i64 (k : Int) (by omega) (by omega)]
  by_cases e : c = 0
  · simp [go_sem, e, sliced]
  · simp [go_sem, e, sliced]
set_option maxRecDepth 100000 in
theorem sl_l (b n c k : Nat) (h : k ≤ n) (hc : n ≤ c) : ∃ ox, (k < n → ox = k * 3) ∧ ∀ w : World,
    (Instr.slice 26 (.slice (some ⟨b, 0, none⟩) n c) (some (.int .i64 (k : Int))) none none).run Tryz.prog w = .ok (.slice (some ⟨b, ox, none⟩) (n - k) (c - k)) w := by
  by_cases e : c = k
  · refine ⟨0, fun h2 => by omega, fun w => ?_⟩
    rw [run_slice_l w 26 _ _ _ Tryz.underlying26 .i64 (k : Int) (by omega) (by omega)]
    simp [go_sem, e, sliced]
  · refine ⟨k * 3, fun _ => rfl, fun w => ?_⟩
    rw [run_slice_l w 26 _ _ _ Tryz.underlying26 .i64 (k : Int) (by omega) (by omega)]
    simp [go_sem, e, sliced]

theorem rest_le (l : List Nd) (h : sentB l = true) : (frontR l).length ≤ 1048576 := by
  have h1 := (fo_of (front_ok h)).1
  have := Tm0.term_len h1
  omega

set_option maxRecDepth 100000 in
set_option maxHeartbeats 8000000 in
theorem lawIdle (hHF : IHoldsFront) (w : World) (a : Option Addr) (len cap : Nat) (hb : Bytes w a len) :
    Calls Tryz.prog 3 #[.slice a len cap] w fun e w' => e = .returned (.bool true) ∧ Below w.heap.size w w' := by
  have HB : Hid (Bytes w a len) := hb
  have HIH : Hid IHoldsFront := hHF
  clear hHF
  by_cases hs : 1048576 < len
  · clear hb
    go_enter Tryz.func3, Tryz.ntmps3
    go_wp2_with fail
    refine (lbig _ a len cap true (by simp; omega)).mono ?_
    rintro e w' ⟨rfl, rfl⟩
    go_wp2
    go_ret
    exact ⟨rfl, Below.refl _ _⟩
  have hsl : len ≤ 1048576 := by omega
  obtain ⟨x, hx0, hx1, hxc⟩ := lat3 w a len cap 3 (by omega) (by omega) hb hsl
  obtain ⟨y, hy0, hy1, hyc⟩ := lat3 w a len cap 4 (by omega) (by omega) hb hsl
  have HXC : Hid (∀ W : World, Below w.heap.size w W → Calls Tryz.prog 9 #[.slice a len cap, .int .i64 3] W fun e w' => e = .returned (.int .i64 x) ∧ w' = W) := hxc
  have HYC : Hid (∀ W : World, Below w.heap.size w W → Calls Tryz.prog 9 #[.slice a len cap, .int .i64 4] W fun e w' => e = .returned (.int .i64 y) ∧ w' = W) := hyc
  clear hb hxc hyc
  go_enter Tryz.func3, Tryz.ntmps3
  go_wp2_with fail
  refine (lbig _ a len cap false (by simp; omega)).mono ?_
  rintro e w0 ⟨rfl, hw0⟩
  have hw0' := hw0.symm
  clear hw0
  subst hw0'
  go_wp2_with fail
  refine (drawSaid _ a len cap HB.out).mono ?_
  rintro e w1 ⟨g, c, L, rfl, hn, hb1, -, -, -, hS, hQ⟩
  have HN1 : Hid (Nodes w1 (some ⟨g, 0, none⟩) L) := hn
  have HB1 : Hid (Below w.heap.size w w1) := hb1
  have HSQ : Hid (sentB L = true ∧ bitsL L ≤ 8) := ⟨hS, hQ⟩
  clear hn hb1 hS hQ
  go_wp2_with fail
  refine (sFront _ _ L c HN1.out).mono ?_
  rintro e w2 ⟨⟨aq, cq, ar, cr, rfl, hq, hr, hcq, hcr, haq⟩, hb⟩
  obtain ⟨gq, rfl⟩ := haq HSQ.out.1
  have HB2 : Hid (Below w.heap.size w w2) := HB1.out.trans (hb.mono HB1.out.size)
  have HQ2 : Hid (Qus w2 (some ⟨gq, 0, none⟩) (frontQ L)) := hq.plain
  have HR2 : Hid (Nodes w2 ar (frontR L)) := hr.nodes
  have HQC : Hid ((frontQ L).length ≤ cq) := hcq
  have HRC : Hid ((frontR L).length ≤ cr) := hcr
  have HRL : Hid ((frontR L).length ≤ 1048576) := rest_le L HSQ.out.1
  have HQ8 : Hid ((frontQ L).length ≤ 8) := fo_few (front_ok HSQ.out.1)
  have HRG : Hid (∀ i, i < (frontQ L).length → 0 ≤ (qth (frontQ L) i).vr ∧ (qth (frontQ L) i).vr ≤ 7) := fun i hi => by
    obtain ⟨ws, hF⟩ := fs_of HSQ.out.1
    have h1 := hF.rq _ (List.getElem_mem hi)
    rw [qth_get hi] at h1
    exact ⟨h1.1, h1.2.1⟩
  have HOK : Hid (hfB (frontQ L) (frontR L) = true) := Ff1.hold_ok HSQ.out.1 HSQ.out.2
  have HID : Hid (∀ (v : Nat) (al : Bool) (k : Nat), v < 8 → (∀ x ∈ frontQ L, x.vr ≠ (v : Int)) → k ≤ (frontQ L).length → hfB ((frontQ L).take k ++ ⟨al, (v : Int), 1⟩ :: (frontQ L).drop k) (frontR L) = true ∧ hfV ((frontQ L).take k ++ ⟨al, (v : Int), 1⟩ :: (frontQ L).drop k) (frontR L) = hfV (frontQ L) (frontR L) ∧ (rowsL ((frontQ L).take k ++ ⟨al, (v : Int), 1⟩ :: (frontQ L).drop k)).length = (rowsL (frontQ L)).length + 1) := fun v al k hv hn hk => by
    obtain ⟨h1, _, h2, h3⟩ := Ff1.idle HSQ.out.1 HSQ.out.2 (y := ⟨al, (v : Int), 1⟩) ⟨by show (0 : Int) ≤ (v : Int); omega, by show (v : Int) ≤ 7; omega, rfl⟩ hn hk
    exact ⟨h1, h2, h3⟩
  clear hb hq hr HN1 HB1 hcq hcr haq HSQ
  generalize frontQ L = q at *
  generalize frontR L = r at *
  have HI1 : Hid (∀ W : World, Qus W (some ⟨gq, 0, none⟩) q → Nodes W ar r → Calls Tryz.prog 7 #[.slice (some ⟨gq, 0, none⟩) q.length cq, .slice ar r.length cr] W fun e w' => e = .returned (.tuple #[.int .i64 (hfV q r), .bool true]) ∧ Below W.heap.size W w') := fun W h1 h2 => by
    have h := HIH.out W (some ⟨gq, 0, none⟩) ar q r cq cr h1 (by have := HQ8.out; omega) h2 HRC.out HRL.out
    rw [HOK.out] at h
    exact h
  have HS1 : Hid (∀ W : World, Qus W (some ⟨gq, 0, none⟩) q → Nodes W ar r → Calls Tryz.prog 8 #[.slice (some ⟨gq, 0, none⟩) q.length cq, .slice ar r.length cr] W fun e w' => e = .returned (.tuple #[.int .i64 (hfV q r), .bool true]) ∧ Below W.heap.size W w') := fun W h1 h2 => by
    have h := sHoldsFront W (some ⟨gq, 0, none⟩) ar q r cq cr h1 h2 (by have := HQ8.out; omega)
    rw [HOK.out] at h
    exact h
  have hq8 : q.length ≤ 8 := HQ8.out
  have HW2 : Hid (Owb (w2.alloc (.cells #[] 4)) w2.heap.size (.slice (some ⟨w2.heap.size, 0, none⟩) 0 0) []) := Owb.lit w2 _ (Nat.le_refl _)
  go_wp2_with fail
  go_loopw [7, 8] (fun ve i wv => ∃ v : Nat, v ≤ 8 ∧ i = .int .i64 v ∧ Owb wv w2.heap.size ve (List.replicate v false) ∧ Below w2.heap.size w2 wv) (fun _ i _ => 8 - (intOf i).toNat)
  case atStart => exact ⟨0, by omega, rfl, HW2.out, (Below.refl _ _).alloc (Nat.le_refl _) _⟩
  case round =>
    clear HW2
    obtain ⟨v, hv, rfl, ho, hbv⟩ := hrel
    have HO : Hid (Owb wr w2.heap.size u7 (List.replicate v false)) := ho
    have HBW : Hid (Below w2.heap.size w2 wr) := hbv
    have hBs : w2.heap.size ≤ wr.heap.size := hbv.size
    clear ho hbv
    by_cases hv8 : v < 8
    · have hvz : (v : Int) < 8 := by omega
      go_wp2_with (at_builtin; go_must (refine Ap1.app_bool _ rfl _ _ rfl w2.heap.size u7 (List.replicate v false) false rfl rfl HO.out hBs (by simp; omega) ?_; intro g' cp w9 ho9 hk9 hg9))
      have HO9 : Hid _ := ho9
      have HB9 : Hid (Below w2.heap.size w2 w9) := HBW.out.trans (hk9.below (fun b hb => (HO.out.lt b hb).1) hBs)
      clear ho9 hk9 hg9
      go_wp2
      go_roundw
      case rel => exact ⟨v + 1, by omega, by go_num, by rw [List.replicate_succ']; have h := HO9.out; rw [List.length_replicate] at h; exact h, HB9.out⟩
      case measure => simp [intOf]; omega
    · have hvz : ¬ (v : Int) < 8 := by omega
      have hv8' : v = 8 := by omega
      subst hv8'
      obtain ⟨wA, rfl⟩ : ∃ wA : World, wA = wr := ⟨_, rfl⟩
      obtain ⟨gu, cu, hu, hg1, hg2⟩ := HO.out.at (by simp)
      rw [List.length_replicate] at hu
      subst hu
      have HU : Hid (Owb wA w2.heap.size (.slice (some ⟨gu, 0, none⟩) 8 cu) (useTo q 0)) := HO.out
      have HGU : Hid (w2.heap.size ≤ gu) := hg1
      clear HO hBs hvz hv hv8 hg1 hg2
      go_wp2_with fail
      go_loopw [9] (fun i wv => ∃ k : Nat, k ≤ q.length ∧ i = .int .i64 k ∧ Owb wv w2.heap.size (.slice (some ⟨gu, 0, none⟩) 8 cu) (useTo q k) ∧ Below w2.heap.size w2 wv) (fun i _ => q.length - (intOf i).toNat)
      case atStart => exact ⟨0, by omega, rfl, HU.out, HBW.out⟩
      case round =>
        clear HU HBW
        obtain ⟨k, hk, rfl, ho, hbv⟩ := hrel
        have HO : Hid (Owb wr w2.heap.size (.slice (some ⟨gu, 0, none⟩) 8 cu) (useTo q k)) := ho
        have HBW : Hid (Below w2.heap.size w2 wr) := hbv
        clear ho hbv
        by_cases hkq : k < q.length
        · have hkz : (k : Int) < (q.length : Int) := by omega
          obtain ⟨b0, o0, he0, hc0⟩ := quAt (HQ2.out.below HBW.out) hkq
          cases he0
          obtain ⟨-, p1, -⟩ := hc0 k hkq
          rw [Nat.zero_add] at p1
          clear hc0
          obtain ⟨r0, r1⟩ := HRG.out k hkq
          have HSU : Hid (useTo q (k + 1) = (useTo q k).set (qth q k).vr.toNat true) := rfl
          obtain ⟨j, hj⟩ : ∃ j : Nat, (qth q k).vr = (j : Int) := ⟨(qth q k).vr.toNat, by omega⟩
          rw [hj, Int.toNat_natCast] at HSU
          rw [hj] at p1 r1
          have hj8 : j < 8 := by omega
          have hjz : (j : Int) < 8 := by omega
          obtain ⟨c0, c1⟩ := HO.out.cell' (use_len q k) j hj8
          clear hj r0 r1
          go_wp2_with fail
          go_roundw
          case rel => exact ⟨k + 1, by omega, by go_num, by rw [HSU.out]; exact HO.out.set' (use_len q k) j true, HBW.out.trans (((Kept.refl (fun b => b = gu) wr).setCell (p := ⟨gu, j, none⟩) rfl (.bool true)).below (fun b (hb : b = gu) => by have := HGU.out; omega) HBW.out.size)⟩
          case measure => simp [intOf]; omega
        · have hkz : ¬ (k : Int) < (q.length : Int) := by omega
          have hke : k = q.length := by omega
          subst hke
          obtain ⟨wB, rfl⟩ : ∃ wB : World, wB = wr := ⟨_, rfl⟩
          have HOB : Hid (Owb wB w2.heap.size (.slice (some ⟨gu, 0, none⟩) 8 cu) (useTo q q.length)) := HO.out
          have HBB : Hid (Below w2.heap.size w2 wB) := HBW.out
          clear HO HBW hkz hk hkq
          go_wp2_with fail
          go_loopw [10] (fun i wv => ∃ v : Nat, v ≤ 8 ∧ i = .int .i64 v ∧ Owb wv w2.heap.size (.slice (some ⟨gu, 0, none⟩) 8 cu) (useTo q q.length) ∧ Below w2.heap.size w2 wv) (fun i _ => 8 - (intOf i).toNat)
          case atStart => exact ⟨0, by omega, rfl, HOB.out, HBB.out⟩
          case round =>
            clear HOB HBB
            obtain ⟨v, hv, rfl, ho, hbv⟩ := hrel
            obtain ⟨wC, rfl⟩ : ∃ wC : World, wC = wr := ⟨_, rfl⟩
            have HO : Hid (Owb wC w2.heap.size (.slice (some ⟨gu, 0, none⟩) 8 cu) (useTo q q.length)) := ho
            have HBW : Hid (Below w2.heap.size w2 wC) := hbv
            have HQC2 : Hid (Qus wC (some ⟨gq, 0, none⟩) q) := HQ2.out.below hbv
            have HRC2 : Hid (Nodes wC ar r) := HR2.out.below hbv
            have HBC : Hid (Below w.heap.size w wC) := HB2.out.trans (hbv.mono HB2.out.size)
            clear ho hbv
            have hxx : (hfV q r != hfV q r) = false := by simp
            have hxe : (hfV q r == hfV q r) = true := by simp
            by_cases hv8 : v < 8
            rotate_left
            · have hve : v = 8 := by omega
              subst hve
              generalize hfV q r = X at HI1 HS1 HID hxx hxe
              go_wp2_with fail
              refine (HI1.out _ HQC2.out HRC2.out).mono ?_
              rintro e w3 ⟨rfl, hb⟩
              have HQ3 : Hid (Qus w3 (some ⟨gq, 0, none⟩) q) := HQC2.out.below hb
              have HR3 : Hid (Nodes w3 ar r) := HRC2.out.below hb
              have HB3 : Hid (Below w.heap.size w w3) := HBC.out.trans (hb.mono HBC.out.size)
              clear hb
              go_wp2_with fail
              refine (HS1.out _ HQ3.out HR3.out).mono ?_
              rintro e w4 ⟨rfl, hb⟩
              have HB4 : Hid (Below w.heap.size w w4) := HB3.out.trans (hb.mono HB3.out.size)
              clear hb
              go_wp2
              go_ret
              exact ⟨rfl, HB4.out⟩
            have hvz : (v : Int) < 8 := by omega
            obtain ⟨c0, c1⟩ := HO.out.cell' (use_len q q.length) v hv8
            rw [flag_get] at c0
            cases hf : flag (useTo q q.length) v
            rotate_left
            · rw [hf] at c0
              go_wp2_with fail
              go_roundw
              case rel => exact ⟨v + 1, by omega, by go_num, HO.out, HBW.out⟩
              case measure => simp [intOf]; omega
            rw [hf] at c0
            have HVN : Hid (∀ x ∈ q, x.vr ≠ (v : Int)) := unused HRG.out hf
            clear hf HO HBW c1
            have hv8b : ((v : Int) == 8) = false := by simp; omega
            obtain ⟨k, hk⟩ : ∃ k : Nat, x % ((q.length : Int) + 1) = (k : Int) := ⟨(x % ((q.length : Int) + 1)).toNat, by have := Int.emod_nonneg x (show ((q.length : Int) + 1) ≠ 0 by omega); omega⟩
            have hkq : k ≤ q.length := by have := Int.emod_lt_of_pos x (show 0 < ((q.length : Int) + 1) by omega); omega
            have HKX : Hid (x % ((q.length : Int) + 1) = (k : Int)) := hk
            obtain ⟨M, hM⟩ : ∃ M, M = q.take k ++ ⟨y.tmod 2 == 0, (v : Int), 1⟩ :: q.drop k := ⟨_, rfl⟩
            obtain ⟨A, hA⟩ : ∃ A, A = q.take k := ⟨_, rfl⟩
            obtain ⟨D, hD⟩ : ∃ D, D = q.drop k := ⟨_, rfl⟩
            obtain ⟨A1, hA1⟩ : ∃ A1, A1 = A ++ [(⟨y.tmod 2 == 0, (v : Int), 1⟩ : Qu)] := ⟨_, rfl⟩
            have HA1 : Hid (A ++ [(⟨y.tmod 2 == 0, (v : Int), 1⟩ : Qu)] = A1) := hA1.symm
            have HM : Hid (A1 ++ D = M) := by show _ = _; rw [hM, hA1, hA, hD]; simp
            have hI := HID.out v (y.tmod 2 == 0) k hv8 HVN.out hkq
            rw [← hM] at hI
            have hML : M.length ≤ 9 := by rw [hM]; simp; omega
            have HIM : Hid (∀ (W : World) (aM : Option Addr) (cM : Nat), Qus W aM M → Nodes W ar r → Calls Tryz.prog 7 #[.slice aM M.length cM, .slice ar r.length cr] W fun e w' => e = .returned (.tuple #[.int .i64 (hfV q r), .bool true]) ∧ Below W.heap.size W w') := fun W aM cM h1 h2 => by
              have h := HIH.out W aM ar M r cM cr h1 (by omega) h2 HRC.out HRL.out
              rw [hI.1, hI.2.1] at h
              exact h
            have HRM : Hid (∀ (W : World) (aM : Option Addr) (cM : Nat), Qus W aM M → Calls Tryz.prog 10 #[.slice aM M.length cM] W fun e w' => (∃ a' c', e = .returned (.slice a' ((rowsL q).length + 1) c')) ∧ Below W.heap.size W w') := fun W aM cM h1 => (iRows W aM M cM h1 (by omega)).mono fun e w' h => by
              obtain ⟨⟨a', c', he, _⟩, hb⟩ := h
              rw [hI.2.2] at he
              exact ⟨⟨a', c', he⟩, hb⟩
            have HRQ : Hid (∀ W : World, Qus W (some ⟨gq, 0, none⟩) q → Calls Tryz.prog 10 #[.slice (some ⟨gq, 0, none⟩) q.length cq] W fun e w' => (∃ a' c', e = .returned (.slice a' (rowsL q).length c')) ∧ Below W.heap.size W w') := fun W h1 => (iRows W _ q cq h1 (by omega)).mono fun e w' h => by
              obtain ⟨⟨a', c', he, _⟩, hb⟩ := h
              exact ⟨⟨a', c', he⟩, hb⟩
            have hR12 := rowsL_le q
            have HTKL : Hid (k = A.length) := by show _ = _; rw [hA, List.length_take]; omega
            have HDL : Hid (q.length - k = D.length) := by show _ = _; rw [hD, List.length_drop]
            have HAL : Hid (A.length ≤ 8 ∧ A1.length ≤ 9 ∧ D.length ≤ 8) := by
              show _ ∧ _
              rw [hA1, List.length_append, hA, hD, List.length_take, List.length_drop]
              simp; omega
            have HAD : Hid (A = q.take k ∧ D = q.drop k) := ⟨hA, hD⟩
            clear hA hD hA1
            obtain ⟨ox, hox, hsl2⟩ := sl_l gq q.length cq k hkq HQC.out
            have HOX : Hid (k < q.length → ox = k * 3) := hox
            have hsl1 : ∀ W : World, (Instr.slice 26 (.slice (some ⟨gq, 0, none⟩) q.length cq) none (some (.int .i64 (k : Int))) none).run Tryz.prog W = .ok (.slice (some ⟨gq, 0, none⟩) k cq) W := fun W => sl_h gq 0 q.length cq k (by have := HQC.out; omega) W
            have HS1' : Hid _ := hsl1
            have HS2' : Hid _ := hsl2
            clear hI hM hk hox hsl1 hsl2
            generalize hfV q r = X at HI1 HS1 HIM hxx hxe
            generalize (rowsL q).length = R at HRM HRQ hR12
            clear HID HIH
            go_wp2_with fail
            refine (HI1.out _ HQC2.out HRC2.out).mono ?_
            rintro e w3 ⟨rfl, hb⟩
            have HQ3 : Hid (Qus w3 (some ⟨gq, 0, none⟩) q) := HQC2.out.below hb
            have HR3 : Hid (Nodes w3 ar r) := HRC2.out.below hb
            have HB3 : Hid (Below w.heap.size w w3) := HBC.out.trans (hb.mono HBC.out.size)
            clear hb HI1 HQC2 HRC2 HBC c0
            go_wp2_with fail
            refine (HS1.out _ HQ3.out HR3.out).mono ?_
            rintro e w4 ⟨rfl, hb⟩
            have HQ4 : Hid (Qus w4 (some ⟨gq, 0, none⟩) q) := HQ3.out.below hb
            have HR4 : Hid (Nodes w4 ar r) := HR3.out.below hb
            have HBV : Hid (Below w.heap.size w w4) := HB3.out.trans (hb.mono HB3.out.size)
            clear hb HS1 HQ3 HR3 HB3
            go_wp2_with fail
            refine (HXC.out _ HBV.out).mono ?_
            rintro e w' ⟨rfl, hq⟩
            have hq' := hq.symm
            clear hq
            subst hq'
            obtain ⟨w3, hw3⟩ : ∃ w3 : World, w3 = w4 := ⟨_, rfl⟩
            rw [← hw3] at HQ4 HR4 HBV ⊢
            clear hw3
            go_upto_region 22 with fail
            rw [HKX.out]
            have HTK : Hid (∀ i (h : i < A.length), QuAt w3 gq (0 + i * 3) A[i]) := fun i hi => by
              obtain ⟨h1, h2⟩ := HAD.out
              subst h1
              have hi2 : i < q.length := by rw [List.length_take] at hi; omega
              obtain ⟨b0, o0, he0, hc0⟩ := quAt HQ4.out hi2
              cases he0
              rw [List.getElem_take, qth_get hi2]
              exact hc0 i hi2
            have HDR : Hid (∀ i (h : i < D.length), QuAt w3 gq (ox + i * 3) D[i]) := fun i hi => by
              obtain ⟨h1, h2⟩ := HAD.out
              subst h2
              have hi2 : k + i < q.length := by rw [List.length_drop] at hi; omega
              obtain ⟨b0, o0, he0, hc0⟩ := quAt HQ4.out hi2
              cases he0
              rw [List.getElem_drop, qth_get hi2, HOX.out (by omega)]
              have := hc0 (k + i) hi2
              rw [show 0 + (k + i) * 3 = k * 3 + i * 3 by omega] at this
              exact this
            have hsl1 := HS1'.out
            have hsl2 := HS2'.out
            clear HXC HKX HS1' HS2' HVN HAD
            refine wp_region_held_drew (S := fun _ => True) (by kernel_rfl) trivial (fun hHeld => ?_)
            refine wpAnyH_take (i := 1) (v := ?_) rfl (by kernel_rfl) (by kernel_rfl) (by kernel_rfl) (fun _ _ _ h => h) (Or.inl ⟨by rfl, ?_⟩) hHeld ?_
            rotate_left
            · intro v9 hS9
              try dsimp only at hS9
              skip
              go_simp
              try with_reducible rfl
            try simp only [Act.put, List.setIfInBounds_toArray, List.set_cons_zero, List.set_cons_succ, List.getElem_toArray, List.getElem_cons_zero, List.getElem_cons_succ]
            refine wpAnyH_take (i := 2) (v := ?_) rfl (by kernel_rfl) (by kernel_rfl) (by kernel_rfl) (fun _ _ _ h => h) (Or.inl ⟨by rfl, ?_⟩) hHeld ?_
            rotate_left
            · intro v9 hS9
              try dsimp only at hS9
              skip
              go_simp
              try with_reducible rfl
            try simp only [Act.put, List.setIfInBounds_toArray, List.set_cons_zero, List.set_cons_succ, List.getElem_toArray, List.getElem_cons_zero, List.getElem_cons_succ]
            refine wpAnyH_take (i := 3) (v := ?_) rfl (by kernel_rfl) (by kernel_rfl) (by kernel_rfl) (fun _ _ _ h => h) (Or.inl ⟨by rfl, ?_⟩) hHeld ?_
            rotate_left
            · intro v9 hS9
              try dsimp only at hS9
              skip
              go_simp
              try with_reducible rfl
            try simp only [Act.put, List.setIfInBounds_toArray, List.set_cons_zero, List.set_cons_succ, List.getElem_toArray, List.getElem_cons_zero, List.getElem_cons_succ]
            refine wpAnyH_take (i := 5) (v := ?_) rfl (by kernel_rfl) (by kernel_rfl) (by kernel_rfl) (fun _ _ _ h => h) (Or.inl ⟨by rfl, ?_⟩) hHeld ?_
            rotate_left
            · intro v9 hS9
              try dsimp only at hS9
              skip
              go_simp
              try with_reducible rfl
            try simp only [Act.put, List.setIfInBounds_toArray, List.set_cons_zero, List.set_cons_succ, List.getElem_toArray, List.getElem_cons_zero, List.getElem_cons_succ]
            refine wpAnyH_take (i := 9) (v := ?_) rfl (by kernel_rfl) (by kernel_rfl) (by kernel_rfl) (fun _ _ _ h => h) (Or.inl ⟨by rfl, ?_⟩) hHeld ?_
            rotate_left
            · intro v9 hS9
              try dsimp only at hS9
              skip
              go_simp
              try with_reducible rfl
            try simp only [Act.put, List.setIfInBounds_toArray, List.set_cons_zero, List.set_cons_succ, List.getElem_toArray, List.getElem_cons_zero, List.getElem_cons_succ]
            refine wpAnyH_take (i := 13) (v := ?_) rfl (by kernel_rfl) (by kernel_rfl) (by kernel_rfl) (fun _ _ _ h => h) (Or.inl ⟨by rfl, ?_⟩) hHeld ?_
            rotate_left
            · intro v9 hS9
              try dsimp only at hS9
              skip
              go_simp
              try with_reducible rfl
            try simp only [Act.put, List.setIfInBounds_toArray, List.set_cons_zero, List.set_cons_succ, List.getElem_toArray, List.getElem_cons_zero, List.getElem_cons_succ]
            refine wpAnyH_take (i := 14) (v := ?_) rfl (by kernel_rfl) (by kernel_rfl) (by kernel_rfl) (fun _ _ _ h => h) (Or.inl ⟨by rfl, ?_⟩) hHeld ?_
            rotate_left
            · intro v9 hS9
              try dsimp only at hS9
              skip
              go_simp
              try with_reducible rfl
            try simp only [Act.put, List.setIfInBounds_toArray, List.set_cons_zero, List.set_cons_succ, List.getElem_toArray, List.getElem_cons_zero, List.getElem_cons_succ]
            refine wpAnyH_take (i := 15) (v := ?_) rfl (by kernel_rfl) (by kernel_rfl) (by kernel_rfl) (fun _ _ _ h => h) (Or.inl ⟨by rfl, ?_⟩) hHeld ?_
            rotate_left
            · intro v9 hS9
              try dsimp only at hS9
              skip
              go_simp
              try with_reducible rfl
            try simp only [Act.put, List.setIfInBounds_toArray, List.set_cons_zero, List.set_cons_succ, List.getElem_toArray, List.getElem_cons_zero, List.getElem_cons_succ]
            refine wpAnyH_ready (rs := [0]) (by kernel_rfl) (by simp) ?_
            refine (AllReadyH.cons rfl (fun K hK => ?_) AllReadyH.nil)
            go_simp
            refine hK.out _ _ trivial (fun hNext => ?_)
            clear hK K hHeld
            have hHeld := hNext
            clear hNext
            try simp only [Act.put, List.setIfInBounds_toArray, List.set_cons_zero, List.set_cons_succ, List.getElem_toArray, List.getElem_cons_zero, List.getElem_cons_succ]
            refine wpAnyH_ready (rs := [4]) (by kernel_rfl) (by simp) ?_
            refine (AllReadyH.cons rfl (fun K hK => ?_) AllReadyH.nil)
            refine step_qus2 _ rfl _ _ rfl w3.heap.size w3.heap.size 0 [] A A rfl gq 0 cq 0 k rfl rfl rfl HTKL.out (fun i hi => (HTK.out i hi).below (((Below.refl w3.heap.size w3).drew).alloc (Nat.le_refl _) _) (HTK.out i hi).lt) (OwQu.lit w3.drew _ (Nat.le_refl _)) (by simp) (by simp only [List.length_nil]; have := HAL.out; omega) ?_
            intro g5 cp5 w5 ho5 hk5
            have HO5 : Hid (OwQu w5 w3.heap.size (.slice (some ⟨g5, 0, none⟩) A.length cp5) A) := ho5
            have HB5 : Hid (Below w3.heap.size w3 w5) := (((Below.refl w3.heap.size w3).drew).alloc (Nat.le_refl _) _).trans (hk5.below (fun b (hb : b = w3.heap.size) => by omega) (by simp))
            clear ho5 hk5
            refine hK.out _ _ trivial (fun hNext => ?_)
            clear hK K hHeld
            have hHeld := hNext
            clear hNext
            try simp only [Act.put, List.setIfInBounds_toArray, List.set_cons_zero, List.set_cons_succ, List.getElem_toArray, List.getElem_cons_zero, List.getElem_cons_succ]
            refine wpAnyH_ready (rs := [6]) (by kernel_rfl) (by simp) ?_
            refine (AllReadyH.cons rfl (fun K hK => ?_) AllReadyH.nil)
            refine step_call (f := 9) (args := #[.slice a len cap, .int .i64 4]) rfl (by go_simp) ?_
            refine (HYC.out _ (HBV.out.trans (HB5.out.mono HBV.out.size))).mono ?_
            rintro e w' ⟨rfl, hq⟩
            have hq' := hq.symm
            clear hq
            subst hq'
            refine ⟨_, rfl, ?_⟩
            refine hK.out _ _ trivial (fun hNext => ?_)
            clear hK K hHeld
            have hHeld := hNext
            clear hNext
            try simp only [Act.put, List.setIfInBounds_toArray, List.set_cons_zero, List.set_cons_succ, List.getElem_toArray, List.getElem_cons_zero, List.getElem_cons_succ]
            refine wpAnyH_take (i := 7) (v := ?_) rfl (by kernel_rfl) (by kernel_rfl) (by kernel_rfl) (fun _ _ _ h => h) (Or.inl ⟨by rfl, ?_⟩) hHeld ?_
            rotate_left
            · intro v9 hS9
              try dsimp only at hS9
              skip
              go_simp
              try with_reducible rfl
            try simp only [Act.put, List.setIfInBounds_toArray, List.set_cons_zero, List.set_cons_succ, List.getElem_toArray, List.getElem_cons_zero, List.getElem_cons_succ]
            refine wpAnyH_take (i := 8) (v := ?_) rfl (by kernel_rfl) (by kernel_rfl) (by kernel_rfl) (fun _ _ _ h => h) (Or.inl ⟨by rfl, ?_⟩) hHeld ?_
            rotate_left
            · intro v9 hS9
              try dsimp only at hS9
              skip
              go_simp
              try with_reducible rfl
            try simp only [Act.put, List.setIfInBounds_toArray, List.set_cons_zero, List.set_cons_succ, List.getElem_toArray, List.getElem_cons_zero, List.getElem_cons_succ]
            refine wpAnyH_take (i := 10) (v := ?_) rfl (by kernel_rfl) (by kernel_rfl) (by kernel_rfl) (fun _ _ _ h => h) (Or.inl ⟨by rfl, ?_⟩) hHeld ?_
            rotate_left
            · intro v9 hS9
              try dsimp only at hS9
              skip
              go_simp
              try with_reducible rfl
            try simp only [Act.put, List.setIfInBounds_toArray, List.set_cons_zero, List.set_cons_succ, List.getElem_toArray, List.getElem_cons_zero, List.getElem_cons_succ]
            refine wpAnyH_ready (rs := [11]) (by kernel_rfl) (by simp) ?_
            refine (AllReadyH.cons rfl (fun K hK => ?_) AllReadyH.nil)
            go_simp
            refine hK.out _ _ trivial (fun hNext => ?_)
            clear hK K hHeld
            have hHeld := hNext
            clear hNext
            try simp only [Act.put, List.setIfInBounds_toArray, List.set_cons_zero, List.set_cons_succ, List.getElem_toArray, List.getElem_cons_zero, List.getElem_cons_succ]
            refine wpAnyH_ready (rs := [12]) (by kernel_rfl) (by simp) ?_
            refine (AllReadyH.cons rfl (fun K hK => ?_) AllReadyH.nil)
            refine step_qus2 _ rfl _ _ rfl w3.heap.size g5 cp5 A [⟨y.tmod 2 == 0, (v : Int), 1⟩] A1 HA1.out w5.heap.size 0 1 A.length 1 rfl rfl rfl rfl (one_new w5 _ _ _) (HO5.out.kept (S := fun _ => False) (Kept.ofBelow ((Below.refl w5.heap.size w5).alloc (Nat.le_refl _) _)) (fun _ _ h => h)) (by have := HB5.out.size; simp; omega) (by have := HAL.out; simp; omega) ?_
            intro g6 cp6 w6 ho6 hk6
            have HO6 : Hid (OwQu w6 w3.heap.size (.slice (some ⟨g6, 0, none⟩) A1.length cp6) A1) := ho6
            have HB6 : Hid (Below w3.heap.size w3 w6) := (HB5.out.trans (((Below.refl w5.heap.size w5).alloc (Nat.le_refl _) _).mono HB5.out.size)).trans (hk6.below (fun b (hb : b = g5) => by have := (HO5.out.lt g5 rfl).1; omega) (by have := HB5.out.size; simp; omega))
            clear ho6 hk6
            refine hK.out _ _ trivial (fun hNext => ?_)
            clear hK K hHeld
            have hHeld := hNext
            clear hNext
            try simp only [Act.put, List.setIfInBounds_toArray, List.set_cons_zero, List.set_cons_succ, List.getElem_toArray, List.getElem_cons_zero, List.getElem_cons_succ]
            refine wpAnyH_ready (rs := [16]) (by kernel_rfl) (by simp) ?_
            refine (AllReadyH.cons rfl (fun K hK => ?_) AllReadyH.nil)
            refine step_qus2 _ rfl _ _ rfl w3.heap.size g6 cp6 A1 D M HM.out gq ox (cq - k) A1.length (q.length - k) rfl rfl rfl HDL.out (fun i hi => (HDR.out i hi).below HB6.out (HDR.out i hi).lt) HO6.out (by have := HB6.out.size; omega) (by have := HAL.out; omega) ?_
            intro g7 cp7 w7 ho7 hk7
            have HO7 : Hid (OwQu w7 w3.heap.size (.slice (some ⟨g7, 0, none⟩) M.length cp7) M) := ho7
            have HB7 : Hid (Below w3.heap.size w3 w7) := HB6.out.trans (hk7.below (fun b (hb : b = g6) => by have := (HO6.out.lt g6 rfl).1; omega) (by have := HB6.out.size; omega))
            clear ho7 hk7 HO5 HO6 HB5 HB6
            refine hK.out _ _ trivial (fun hNext => ?_)
            clear hK K hHeld
            have hHeld := hNext
            clear hNext
            try simp only [Act.put, List.setIfInBounds_toArray, List.set_cons_zero, List.set_cons_succ, List.getElem_toArray, List.getElem_cons_zero, List.getElem_cons_succ]
            refine wpAnyH_take (i := 17) (v := ?_) rfl (by kernel_rfl) (by kernel_rfl) (by kernel_rfl) (fun _ _ _ h => h) (Or.inl ⟨by rfl, ?_⟩) hHeld ?_
            rotate_left
            · intro v9 hS9
              try dsimp only at hS9
              skip
              go_simp
              try with_reducible rfl
            try simp only [Act.put, List.setIfInBounds_toArray, List.set_cons_zero, List.set_cons_succ, List.getElem_toArray, List.getElem_cons_zero, List.getElem_cons_succ]
            refine wpAnyH_done (by kernel_rfl) ?_ _
            clear hHeld
            obtain ⟨aM, cM, heM, hwM, -⟩ := HO7.out.form
            cases heM
            have HQ7 : Hid (Qus w7 (some ⟨g7, 0, none⟩) M) := hwM.plain
            have HR7 : Hid (Nodes w7 ar r) := HR4.out.below HB7.out
            have HK7 : Hid (Qus w7 (some ⟨gq, 0, none⟩) q) := HQ4.out.below HB7.out
            have HV7 : Hid (Below w.heap.size w w7) := HBV.out.trans (HB7.out.mono HBV.out.size)
            clear hwM HO7 HB7 HBV HQ4 HR4 hsl1 hsl2 HTK HDR HTKL HDL HOX HYC
            go_wp2_with fail
            refine (HIM.out _ _ _ HQ7.out HR7.out).mono ?_
            rintro e w8 ⟨rfl, hb⟩
            have HQ8' : Hid (Qus w8 (some ⟨g7, 0, none⟩) M) := HQ7.out.below hb
            have HK8 : Hid (Qus w8 (some ⟨gq, 0, none⟩) q) := HK7.out.below hb
            have HV8 : Hid (Below w.heap.size w w8) := HV7.out.trans (hb.mono HV7.out.size)
            clear hb HQ7 HR7 HK7 HV7
            go_wp2_with fail
            refine (HRM.out _ _ _ HQ8'.out).mono ?_
            rintro e w9 ⟨⟨a9, c9, rfl⟩, hb⟩
            have HK9 : Hid (Qus w9 (some ⟨gq, 0, none⟩) q) := HK8.out.below hb
            have HV9 : Hid (Below w.heap.size w w9) := HV8.out.trans (hb.mono HV8.out.size)
            clear hb HQ8' HK8 HV8
            go_wp2_with fail
            refine (HRQ.out _ HK9.out).mono ?_
            rintro e w10 ⟨⟨a10, c10, rfl⟩, hb⟩
            have HV10 : Hid (Below w.heap.size w w10) := HV9.out.trans (hb.mono HV9.out.size)
            clear hb HK9 HV9
            have hrr : (((R + 1 : Nat) : Int) == (R : Int) + 1) = true := by simp
            go_wp2
            go_ret
            exact ⟨rfl, HV10.out⟩

end Go.Proofs.YtejoeahehljhnaaGreat.Lfi1
