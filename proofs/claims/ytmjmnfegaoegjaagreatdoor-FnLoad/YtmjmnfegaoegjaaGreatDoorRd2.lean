/- The draw of a machine's text, sometimes spoilt. Written out of Jd0 by mkrd2.py. -/
import Derived.Deep.RegionHeld
import Derived.BigQuiet
import Derived.Test.YtmjmnfegaoegjaaGreatDoorRd1
import Derived.Test.YtmjmnfegaoegjaaGreatDoorPkLD24
import Derived.Test.YtmjmnfegaoegjaaGreatDoorZm1
namespace Go.Proofs.YtmjmnfegaoegjaaGreatDoor.Rd2
open Go.RowKit
open Nd0 (Kept lt_of_cell)
open Dr5 Ss0 Ss1 Ss2 Tdw
open Dr0 (Cur Only Bytes)
open Mm0 (Mc mval Mr)
open Zs0 (svS svB savT)
open Zs7 (SvP)
open Zm1 (sSave)
open Rd0 (curB onlyB)
set_option linter.unusedVariables false
set_option linter.unusedSimpArgs false

def pkC : List (List UInt8) := [[48], [49], [32], [10], [97], [45]]
theorem pkC_size : ∀ x ∈ pkC, x.length ≤ 20 := by decide
theorem sv_size (m : Mc) : (svS m).size ≤ 400000 := by
  unfold svS
  split
  · rename_i h
    unfold svB at h
    simp only [Bool.and_eq_true, decide_eq_true_eq] at h
    rw [bs_size]
    exact h.2.2
  · exact Nat.zero_le _
def XP (w : World) (e : Ending) (w' : World) : Prop := (∃ S : ByteArray, e = .returned (.string S) ∧ S.size ≤ 1048576) ∧ Below w.heap.size w w'

set_option maxRecDepth 100000 in
set_option maxHeartbeats 8000000 in
theorem drawLoad (w : World) (a : Option Addr) (len cap : Nat) (hb : Bytes w a len) :
    Calls Tryz.prog 21 #[.slice a len cap] w (XP w) := by
  obtain ⟨b, hbw⟩ : ∃ b, b = w.heap.size := ⟨_, rfl⟩
  have HBW : Hid (b = w.heap.size) := hbw
  have HNW : Hid (Calls Tryz.prog 23 #[.slice a len cap] w fun e w' => e = .returned (.pointer (some ⟨b, 0, none⟩)) ∧ Cur w' b a len cap ∧ Below w.heap.size w w') := by rw [hbw]; exact Dr4.new w a len cap hb
  clear hb hbw
  go_enter Tryz.func21, Tryz.ntmps21
  go_wp2_with fail
  refine Calls.mono HNW.out ?_
  rintro e w1 ⟨rfl, hc1, hb1⟩
  have HC1 : Hid (Cur w1 b a len cap) := hc1
  have HB1 : Hid (Below w.heap.size w w1) := hb1
  clear hc1 hb1 HNW
  go_wp2_with fail
  refine (Rd1.machine _ b a len cap HC1.out).mono ?_
  rintro e w2 ⟨⟨m, ra, va, ma, rc, vc, mc, rfl, hmr, hms, hmk⟩, hc2, ho2⟩
  have HC2 : Hid (Cur w2 b a len cap) := hc2
  have HB2 : Hid (Below w.heap.size w w2) := HB1.out.trans (ho2.below (by rw [HBW.out]; exact Nat.le_refl _) HB1.out.size)
  clear hc2 ho2 HC1 HB1
  go_wp2_with fail
  refine (sSave m ra va ma rc vc mc w2 hmr hms hmk).mono ?_
  rintro e w3 ⟨hsv, hb3⟩
  unfold SvP at hsv
  subst hsv
  have HC3 : Hid (Cur w3 b a len cap) := curB HC2.out hb3
  have HB3 : Hid (Below w.heap.size w w3) := HB2.out.trans (hb3.mono HB2.out.size)
  have hJ := sv_size m
  clear hb3 HC2 HB2 hmr hms hmk
  generalize svS m = J at *
  generalize svB m = jb at *
  by_cases hj0 : J.size = 0
  · have hz : ((J.size : Int) == 0) = true := by rw [hj0]; rfl
    go_wp2
    go_ret
    exact ⟨⟨_, rfl, by decide⟩, HB3.out⟩
  have hz : ((J.size : Int) == 0) = false := beq_eq_false_iff_ne.2 (by omega)
  go_wp2_with fail
  refine (belowAny _ b a len cap _ (by omega) (by omega) HC3.out).mono ?_
  rintro e w3b ⟨⟨x, rfl, hx0, hx1⟩, hc3, ho3⟩
  obtain ⟨i, rfl⟩ := Int.eq_ofNat_of_zero_le hx0
  have HC3b : Hid (Cur w3b b a len cap) := hc3
  have HB3b : Hid (Below w.heap.size w w3b) := HB3.out.trans (ho3.below (by rw [HBW.out]; exact Nat.le_refl _) HB3.out.size)
  clear hc3 ho3 HC3 HB3
  go_wp2_with fail
  refine (Dr1.below _ b a len cap 8 (by omega) (by omega) HC3b.out).mono ?_
  rintro e w4 ⟨⟨d, rfl, hd0, hd1⟩, hc4, ho4⟩
  have HC4 : Hid (Cur w4 b a len cap) := hc4
  have HB4 : Hid (Below w.heap.size w w4) := HB3b.out.trans (ho4.below (by rw [HBW.out]; exact Nat.le_refl _) HB3b.out.size)
  have hb4 : b < w4.heap.size := Dr0.Cur.lt hc4
  clear hc4 ho4 HC3b HB3b
  have z1 : (J.extract 0 i).size ≤ 400000 := by rw [ByteArray.size_extract]; omega
  have z2 : (J.extract i J.size).size ≤ 400000 := by rw [ByteArray.size_extract]; omega
  have z3 : (J.extract (i + 1) J.size).size ≤ 400000 := by rw [ByteArray.size_extract]; omega
  have hiz : (i : Int) ≤ (J.size : Int) := by omega
  have hi0 : (0 : Int) ≤ (i : Int) := by omega
  have hi1 : (i : Int) + 1 ≤ (J.size : Int) := by omega
  have hwi : IntKind.i64.wrap ((i : Int) + 1) = (i : Int) + 1 := by rw [IntKind.wrap_i64] <;> omega
  have hti : ((i : Int) + 1).toNat = i + 1 := by omega
  by_cases d0 : d = 0
  · subst d0
    go_wp2
    go_ret
    exact ⟨⟨_, rfl, by omega⟩, HB4.out⟩
  have q0 : (d == 0) = false := beq_eq_false_iff_ne.2 d0
  by_cases d1 : d = 1
  · subst d1
    clear d0 q0
    have HST : Hid (Strs (w4.drew.alloc (.cells (pkC.map fun x => .string (bs x)).toArray 9)) (some ⟨w4.drew.heap.size, 0, none⟩) pkC) := strs_lit w4.drew _ pkC 9 rfl (by decide)
    go_wp2_with fail
    refine wp_region_held_drew (S := fun w' => Cur w' b a len cap ∧ Kept (fun k => k = b) w4 w') (by kernel_rfl) ⟨HC4.out.drew, (Kept.refl _ _).drew⟩ (fun hHeld => ?_)
    refine wpAnyH_take (i := 0) (v := ?_) rfl (by kernel_rfl) (by kernel_rfl) (by kernel_rfl) (fun _ _ _ h => h) (Or.inl ⟨by rfl, ?_⟩) hHeld ?_
    rotate_left
    · intro v9 hS9
      try dsimp only at hS9
      go_simp
      try with_reducible rfl
    try simp only [Act.put, List.setIfInBounds_toArray, List.set_cons_zero, List.set_cons_succ, List.getElem_toArray, List.getElem_cons_zero]
    refine wpAnyH_take (i := 1) (v := ?_) rfl (by kernel_rfl) (by kernel_rfl) (by kernel_rfl) (fun _ _ _ h => h) (Or.inl ⟨by rfl, ?_⟩) hHeld ?_
    rotate_left
    · intro v9 hS9
      try dsimp only at hS9
      go_simp
      try with_reducible rfl
    try simp only [Act.put, List.setIfInBounds_toArray, List.set_cons_zero, List.set_cons_succ, List.getElem_toArray, List.getElem_cons_zero, List.getElem_cons_succ]
    refine wpAnyH_take (i := 2) (v := ?_) rfl (by kernel_rfl) (by kernel_rfl) (by kernel_rfl) (fun _ _ _ h => h) (Or.inl ⟨by rfl, ?_⟩) hHeld ?_
    rotate_left
    · intro v9 hS9
      try dsimp only at hS9
      go_simp
      try with_reducible rfl
    try simp only [Act.put, List.setIfInBounds_toArray, List.set_cons_zero, List.set_cons_succ, List.getElem_toArray, List.getElem_cons_zero, List.getElem_cons_succ]
    refine wpAnyH_take (i := 3) (v := ?_) rfl (by kernel_rfl) (by kernel_rfl) (by kernel_rfl) (fun _ _ _ h => h) (Or.inl ⟨by rfl, ?_⟩) hHeld ?_
    rotate_left
    · intro v9 hS9
      try dsimp only at hS9
      go_simp
      try with_reducible rfl
    try simp only [Act.put, List.setIfInBounds_toArray, List.set_cons_zero, List.set_cons_succ, List.getElem_toArray, List.getElem_cons_zero, List.getElem_cons_succ]
    refine wpAnyH_take (i := 7) (v := ?_) rfl (by kernel_rfl) (by kernel_rfl) (by kernel_rfl) (fun _ _ _ h => h) (Or.inl ⟨by rfl, ?_⟩) hHeld ?_
    rotate_left
    · intro v9 hS9
      try dsimp only at hS9
      go_simp
      try with_reducible rfl
    try simp only [Act.put, List.setIfInBounds_toArray, List.set_cons_zero, List.set_cons_succ, List.getElem_toArray, List.getElem_cons_zero, List.getElem_cons_succ]
    refine wpAnyH_take (i := 8) (v := ?_) rfl (by kernel_rfl) (by kernel_rfl) (by kernel_rfl) (fun _ _ _ h => h) (Or.inl ⟨by rfl, ?_⟩) hHeld ?_
    rotate_left
    · intro v9 hS9
      try dsimp only at hS9
      go_simp
      try with_reducible rfl
    try simp only [Act.put, List.setIfInBounds_toArray, List.set_cons_zero, List.set_cons_succ, List.getElem_toArray, List.getElem_cons_zero, List.getElem_cons_succ]
    refine wpAnyH_take (i := 9) (v := ?_) rfl (by kernel_rfl) (by kernel_rfl) (by kernel_rfl) (fun _ _ _ h => h) (Or.inl ⟨by rfl, ?_⟩) hHeld ?_
    rotate_left
    · intro v9 hS9
      try dsimp only at hS9
      go_simp
      try with_reducible rfl
    try simp only [Act.put, List.setIfInBounds_toArray, List.set_cons_zero, List.set_cons_succ, List.getElem_toArray, List.getElem_cons_zero, List.getElem_cons_succ]
    refine wpAnyH_ready (rs := [4]) (by kernel_rfl) (by simp) ?_
    refine (AllReadyH.cons rfl (fun K hK => ?_) AllReadyH.nil)
    ·
      go_simp
      refine hK.out _ _ (⟨hHeld.1.alloc _, hHeld.2.alloc _⟩) (fun hNext => ?_)
      clear hK K hHeld
      have hHeld := hNext
      clear hNext
      refine wpAnyH_ready (rs := [5]) (by kernel_rfl) (by simp) ?_
      refine (AllReadyH.cons rfl (fun K hK => ?_) AllReadyH.nil)
      ·
        go_simp
        go_wp2_with (go_at_call 55; refine (pickStr _ b a len cap w4.drew.heap.size pkC 6 (by decide) (by decide) (by show ¬ w4.heap.size = b; omega) HST.out hHeld.1).mono ?_; rintro e w5 ⟨⟨x, hx, rfl⟩, hc5, ho5⟩)
        have hxs := pkC_size x hx
        have hxz : (bs x).size ≤ 20 := by rw [bs_size]; exact hxs
        have HS5 : Cur w5 b a len cap ∧ Kept (fun k => k = b) w4 w5 := ⟨hc5, hHeld.2.trans (kept_of_only ho5)⟩
        clear hc5 ho5 hx
        refine hK.out _ _ (HS5) (fun hNext => ?_)
        clear hK K hHeld
        have hHeld := hNext
        clear hNext
        refine wpAnyH_take (i := 6) (v := ?_) rfl (by kernel_rfl) (by kernel_rfl) (by kernel_rfl) (fun _ _ _ h => h) (Or.inl ⟨by rfl, ?_⟩) hHeld ?_
        rotate_left
        · intro v9 hS9
          try dsimp only at hS9
          go_simp
          first | (rw [if_neg (by omega)]; done) | (rw [if_neg (by omega)]; exact rfl)
        try simp only [Act.put, List.setIfInBounds_toArray, List.set_cons_zero, List.set_cons_succ, List.getElem_toArray, List.getElem_cons_zero, List.getElem_cons_succ]
        refine wpAnyH_take (i := 10) (v := ?_) rfl (by kernel_rfl) (by kernel_rfl) (by kernel_rfl) (fun _ _ _ h => h) (Or.inl ⟨by rfl, ?_⟩) hHeld ?_
        rotate_left
        · intro v9 hS9
          try dsimp only at hS9
          go_simp
          first | (rw [if_neg (by omega)]; done) | (rw [if_neg (by omega)]; exact rfl)
        try simp only [Act.put, List.setIfInBounds_toArray, List.set_cons_zero, List.set_cons_succ, List.getElem_toArray, List.getElem_cons_zero, List.getElem_cons_succ]
        refine wpAnyH_take (i := 11) (v := ?_) rfl (by kernel_rfl) (by kernel_rfl) (by kernel_rfl) (fun _ _ _ h => h) (Or.inl ⟨by rfl, ?_⟩) hHeld ?_
        rotate_left
        · intro v9 hS9
          try dsimp only at hS9
          go_simp
          try with_reducible rfl
        try simp only [Act.put, List.setIfInBounds_toArray, List.set_cons_zero, List.set_cons_succ, List.getElem_toArray, List.getElem_cons_zero, List.getElem_cons_succ]
        refine wpAnyH_done (by kernel_rfl) ?_ _
        have HB5 : Hid (Below w.heap.size w w5) := HB4.out.trans (HS5.2.below (fun k (hk : k = b) => by rw [hk, HBW.out]; exact Nat.le_refl _) HB4.out.size)
        go_wp2
        go_ret
        exact ⟨⟨_, rfl, by rw [ByteArray.size_append, ByteArray.size_append]; omega⟩, HB5.out⟩
  have q1 : (d == 1) = false := beq_eq_false_iff_ne.2 d1
  by_cases d2 : d = 2
  · subst d2
    clear d0 d1 q0 q1
    go_wp2_with fail
    go_quiet (fail)
    have HB5 : Hid (Below w.heap.size w (w4.drewN nq)) := ⟨HB4.out.os, HB4.out.tape, HB4.out.output, HB4.out.size, HB4.out.block⟩
    go_wp2
    go_ret
    exact ⟨⟨_, rfl, by rw [ByteArray.size_append]; omega⟩, HB5.out⟩
  have q2 : (d == 2) = false := beq_eq_false_iff_ne.2 d2
  go_wp2
  go_ret
  exact ⟨⟨J, rfl, by omega⟩, HB4.out⟩

end Go.Proofs.YtmjmnfegaoegjaaGreatDoor.Rd2
