/- The draw of a journal. -/
import Derived.Deep.RegionHeld
import Derived.Test.YtficonkpbohpeaaDoorJn2
import Derived.Test.YtficonkpbohpeaaDoorPkT40
namespace Go.Proofs.YtficonkpbohpeaaDoor.Jd0
open Go.RowKit
open Nd0 Tx0 Dr5 Ss0 Ss1 Ss2 Jn0 Jn2
open Dr0 (Cur Only Bytes)
open Dr1 (below)
set_option linter.unusedVariables false

def pkA : List (List UInt8) := [[97], [58], [59], [48], [51, 58, 120, 59], [10]]
def pkB : List (List UInt8) := [[48], [58], [59], [49, 58, 97, 59], [120]]
theorem pkA_size : ∀ x ∈ pkA, x.length ≤ 4 := by decide
theorem pkB_size : ∀ x ∈ pkB, x.length ≤ 20 := by decide
theorem cur_kept {w w' : World} {b : Nat} {a : Option Addr} {len cap : Nat} (h : Cur w b a len cap) {S : Nat → Prop} (k : Kept S w w') (hb : ¬ S b) (hl : len = 0 ∨ ∀ x, a = some x → ¬ S x.block) : Cur w' b a len cap := by
  have hlt := h.lt
  obtain ⟨i, hi, c1⟩ := h.c1
  obtain ⟨x, c2⟩ := h.c2
  refine ⟨by rw [k.cell (p := ⟨b, 0, none⟩) hlt hb]; exact h.c0, ⟨i, hi, by rw [k.cell (p := ⟨b, 1, none⟩) hlt hb]; exact c1⟩, ⟨x, by rw [k.cell (p := ⟨b, 2, none⟩) hlt hb]; exact c2⟩, by rw [k.frozen (p := ⟨b, 1, none⟩) hlt hb]; exact h.f1, by rw [k.frozen (p := ⟨b, 2, none⟩) hlt hb]; exact h.f2, ?_, h.off⟩
  refine ⟨h.bytes.1, ?_⟩
  rcases h.bytes.2 with h0 | ⟨xb, xo, rfl, hc⟩
  · exact .inl h0
  · rcases hl with h0 | hl
    · exact .inl h0
    · refine .inr ⟨xb, xo, rfl, fun j hj => ?_⟩
      obtain ⟨y, y0, y1, hy⟩ := hc j hj
      exact ⟨y, y0, y1, by rw [k.cell (p := ⟨xb, xo + j, none⟩) (lt_of_cell hy) (hl ⟨xb, xo, none⟩ rfl)]; exact hy⟩
theorem only_kept {b : Nat} {w w' : World} (h : Only b w w') : Kept (fun k => k = b) w w' := ⟨h.os, h.tape, h.output, h.size, fun k hk hn => h.block k hk hn⟩
theorem cur_below {w w' : World} {b : Nat} {a : Option Addr} {len cap : Nat} (h : Cur w b a len cap) (k : Below w.heap.size w w') : Cur w' b a len cap := cur_kept h (S := fun _ => False) (Kept.ofBelow k) (fun h => h) (.inr fun _ _ h => h)
theorem cur_drew {w : World} {b : Nat} {a : Option Addr} {len cap : Nat} (h : Cur w b a len cap) : Cur w.drew b a len cap := cur_below h ⟨rfl, rfl, rfl, Nat.le_refl _, fun _ _ => rfl⟩
theorem cur_alloc {w : World} {b : Nat} {a : Option Addr} {len cap : Nat} (h : Cur w b a len cap) (o : Obj) : Cur (w.alloc o) b a len cap := cur_below h ((Below.refl _ _).alloc (Nat.le_refl _) _)
theorem rcd_size {S : ByteArray} (h : S.size ≤ 100) : (rcd S).size ≤ S.size + 8 := by
  have h6 := dec6 (n := S.size) (by omega)
  rw [bs_size] at h6
  unfold rcd
  rw [if_pos (by omega), bs_size, recT_len, tl_length]
  omega

/-- Some text that is not too long. -/
def XPost (b : Nat) (a : Option Addr) (len cap : Nat) (w : World) (e : Ending) (w' : World) : Prop := (∃ S : ByteArray, e = .returned (.string S) ∧ S.size ≤ 1000) ∧ Cur w' b a len cap ∧ Kept (fun k => k = b) w w'

set_option maxRecDepth 100000 in
set_option maxHeartbeats 4000000 in
theorem journalAny (w : World) (b : Nat) (a : Option Addr) (len cap : Nat) (hc : Cur w b a len cap) :
    Calls Tryd.prog 29 #[.pointer (some ⟨b, 0, none⟩)] w (XPost b a len cap w) := by
  have HC0 : Hid (Cur w b a len cap) := hc
  clear hc
  go_enter Tryd.func29, Tryd.ntmps29
  go_wp2_with fail
  refine (below _ b a len cap 6 (by omega) (by omega) HC0.out).mono ?_
  rintro e w1 ⟨⟨x, rfl, hx0, hx1⟩, hc1, ho1⟩
  obtain ⟨n, rfl⟩ := Int.eq_ofNat_of_zero_le hx0
  have hn5 : n ≤ 5 := by omega
  have HC1 : Hid (Cur w1 b a len cap) := hc1
  have HK1 : Hid (Kept (fun k => k = b) w w1) := only_kept ho1
  clear hx0 hx1 hc1 ho1
  go_wp2
  go_loopw [3, 5] (fun j i wr => ∃ (m : Nat) (J : ByteArray), m ≤ n ∧ i = .int .i64 m ∧ j = .string J ∧ J.size ≤ 60 * m ∧ Cur wr b a len cap ∧ Kept (fun k => k = b) w wr) (fun _ i _ => n - (intOf i).toNat)
  case atStart => exact ⟨0, ⟨#[]⟩, Nat.zero_le _, rfl, rfl, by decide, HC1.out, HK1.out⟩
  case round =>
    clear HC1 HK1
    obtain ⟨m, J, hm, rfl, rfl, hJ, hcr, hkr⟩ := hrel
    have HC2 : Hid (Cur wr b a len cap) := hcr
    have HK2 : Hid (Kept (fun k => k = b) w wr) := hkr
    clear hcr hkr
    by_cases hmn : m < n
    · have hmz : (m : Int) < (n : Int) := by omega
      go_wp2_with fail
      refine (below _ b a len cap 14 (by omega) (by omega) HC2.out).mono ?_
      rintro e w3 ⟨⟨x, rfl, hx0, hx1⟩, hc3, ho3⟩
      obtain ⟨q, rfl⟩ := Int.eq_ofNat_of_zero_le hx0
      have hq : q ≤ 13 := by omega
      have HC3 : Hid (Cur w3 b a len cap) := hc3
      have HK3 : Hid (Kept (fun k => k = b) w w3) := HK2.out.trans (only_kept ho3)
      clear hx0 hx1 hc3 ho3 HC2 HK2
      go_wp2
      go_loopw [6, 8] (fun s d wr => ∃ (z : Nat) (S : ByteArray), z ≤ q ∧ d = .int .i64 z ∧ s = .string S ∧ S.size ≤ 4 * z ∧ Cur wr b a len cap ∧ Kept (fun k => k = b) w wr) (fun _ d _ => q - (intOf d).toNat)
      case atStart => exact ⟨0, ⟨#[]⟩, Nat.zero_le _, rfl, rfl, by decide, HC3.out, HK3.out⟩
      case round =>
        clear HC3 HK3
        obtain ⟨z, S, hz, rfl, rfl, hS, hcr, hkr⟩ := hrel
        have HC4 : Hid (Cur wr b a len cap) := hcr
        have HK4 : Hid (Kept (fun k => k = b) w wr) := hkr
        have hb4 : b < wr.heap.size := Dr0.Cur.lt hcr
        clear hcr hkr
        by_cases hzq : z < q
        · have hzz : (z : Int) < (q : Int) := by omega
          have HST : Hid (Strs (wr.alloc (.cells (pkA.map fun x => .string (bs x)).toArray 9)) (some ⟨wr.heap.size, 0, none⟩) pkA) := strs_lit wr _ pkA 9 rfl (by decide)
          go_wp2_with fail
          refine (pickStr _ b a len cap wr.heap.size pkA 6 (by decide) (by decide) (by omega) HST.out (cur_alloc HC4.out _)).mono ?_
          rintro e w5 ⟨⟨x, hx, rfl⟩, hc5, ho5⟩
          have hxz : (bs x).size ≤ 4 := by rw [bs_size]; exact pkA_size x hx
          have HC5 : Hid (Cur w5 b a len cap) := hc5
          have HK5 : Hid (Kept (fun k => k = b) w w5) := (HK4.out.alloc _).trans (only_kept ho5)
          clear hc5 ho5 hx
          go_wp2
          go_roundw
          case rel => exact ⟨z + 1, _, by omega, by go_num, rfl, by rw [ByteArray.size_append]; omega, HC5.out, HK5.out⟩
          case measure => simp [intOf]; omega
        · have hzz : ¬ (z : Int) < (q : Int) := by omega
          have hS5 : S.size ≤ 52 := by omega
          have hrs := rcd_size (S := S) (by omega)
          have HRC : Hid (Calls Tryd.prog 21 #[.string S] wr fun e w' => e = .returned (.string (rcd S)) ∧ w' = wr) := sRecord S wr (by unfold maxLen; omega)
          generalize rcd S = R at HRC hrs
          go_wp2_with fail
          refine Calls.mono HRC.out ?_
          rintro e w6 ⟨rfl, rfl⟩
          go_wp2
          go_roundw
          case rel => exact ⟨m + 1, _, by omega, by go_num, rfl, by rw [ByteArray.size_append]; omega, HC4.out, HK4.out⟩
          case measure => simp [intOf]; omega
    · have hmz : ¬ (m : Int) < (n : Int) := by omega
      have hJ3 : J.size ≤ 300 := by omega
      go_wp2_with fail
      refine (belowAny _ b a len cap _ (by omega) (by omega) HC2.out).mono ?_
      rintro e w3 ⟨⟨x, rfl, hx0, hx1⟩, hc3, ho3⟩
      obtain ⟨i, rfl⟩ := Int.eq_ofNat_of_zero_le hx0
      have hil : i ≤ J.size := by omega
      have HC3 : Hid (Cur w3 b a len cap) := hc3
      have HK3 : Hid (Kept (fun k => k = b) w w3) := HK2.out.trans (only_kept ho3)
      clear hc3 ho3 HC2 HK2 hx0 hx1
      go_wp2_with fail
      refine (below _ b a len cap 6 (by omega) (by omega) HC3.out).mono ?_
      rintro e w4 ⟨⟨d, rfl, hd0, hd1⟩, hc4, ho4⟩
      have HC4 : Hid (Cur w4 b a len cap) := hc4
      have HK4 : Hid (Kept (fun k => k = b) w w4) := HK3.out.trans (only_kept ho4)
      have hb4 : b < w4.heap.size := Dr0.Cur.lt hc4
      clear hc4 ho4 HC3 HK3
      have z1 : (J.extract 0 i).size ≤ 300 := by rw [ByteArray.size_extract]; omega
      have z2 : (J.extract i J.size).size ≤ 300 := by rw [ByteArray.size_extract]; omega
      have hiz : (i : Int) ≤ (J.size : Int) := by omega
      have hi0 : (0 : Int) ≤ (i : Int) := by omega
      by_cases d0 : d = 0
      · subst d0
        go_wp2
        go_ret
        exact ⟨⟨_, rfl, by omega⟩, HC4.out, HK4.out⟩
      have q0 : (d == 0) = false := beq_eq_false_iff_ne.2 d0
      by_cases d1 : d = 1
      · subst d1
        clear d0 q0
        have HST : Hid (Strs (w4.drew.alloc (.cells (pkB.map fun x => .string (bs x)).toArray 9)) (some ⟨w4.drew.heap.size, 0, none⟩) pkB) := strs_lit w4.drew _ pkB 9 rfl (by decide)
        go_wp2_with fail
        refine wp_region_held_drew (S := fun w' => Cur w' b a len cap ∧ Kept (fun k => k = b) w4 w') (by kernel_rfl) ⟨cur_drew HC4.out, (Kept.refl _ _).drew⟩ (fun hHeld => ?_)
        refine wpAnyH_take (i := 0) (v := ?_) rfl (by kernel_rfl) (by kernel_rfl) (by kernel_rfl) (fun _ _ _ h => h) (Or.inl ⟨by rfl, ?_⟩) hHeld ?_
        rotate_left
        · intro v9 hS9
          try dsimp only at hS9
          go_simp
          try with_reducible rfl
        try simp only [Act.put, List.setIfInBounds_toArray, List.set_cons_zero, List.set_cons_succ, List.getElem_toArray, List.getElem_cons_zero]
        refine wpAnyH_take (i := 1) (v := ?_) rfl (by kernel_rfl) (by kernel_rfl) (by kernel_rfl) (fun _ _ _ h => h) (Or.inl ⟨by rfl, ?_⟩) hHeld ?_
        rotate_left
        · intro v9 hS9
          try dsimp only at hS9
          go_simp
          try with_reducible rfl
        try simp only [Act.put, List.setIfInBounds_toArray, List.set_cons_zero, List.set_cons_succ, List.getElem_toArray, List.getElem_cons_zero, List.getElem_cons_succ]
        refine wpAnyH_take (i := 2) (v := ?_) rfl (by kernel_rfl) (by kernel_rfl) (by kernel_rfl) (fun _ _ _ h => h) (Or.inl ⟨by rfl, ?_⟩) hHeld ?_
        rotate_left
        · intro v9 hS9
          try dsimp only at hS9
          go_simp
          try with_reducible rfl
        try simp only [Act.put, List.setIfInBounds_toArray, List.set_cons_zero, List.set_cons_succ, List.getElem_toArray, List.getElem_cons_zero, List.getElem_cons_succ]
        refine wpAnyH_take (i := 3) (v := ?_) rfl (by kernel_rfl) (by kernel_rfl) (by kernel_rfl) (fun _ _ _ h => h) (Or.inl ⟨by rfl, ?_⟩) hHeld ?_
        rotate_left
        · intro v9 hS9
          try dsimp only at hS9
          go_simp
          try with_reducible rfl
        try simp only [Act.put, List.setIfInBounds_toArray, List.set_cons_zero, List.set_cons_succ, List.getElem_toArray, List.getElem_cons_zero, List.getElem_cons_succ]
        refine wpAnyH_take (i := 7) (v := ?_) rfl (by kernel_rfl) (by kernel_rfl) (by kernel_rfl) (fun _ _ _ h => h) (Or.inl ⟨by rfl, ?_⟩) hHeld ?_
        rotate_left
        · intro v9 hS9
          try dsimp only at hS9
          go_simp
          try with_reducible rfl
        try simp only [Act.put, List.setIfInBounds_toArray, List.set_cons_zero, List.set_cons_succ, List.getElem_toArray, List.getElem_cons_zero, List.getElem_cons_succ]
        refine wpAnyH_take (i := 8) (v := ?_) rfl (by kernel_rfl) (by kernel_rfl) (by kernel_rfl) (fun _ _ _ h => h) (Or.inl ⟨by rfl, ?_⟩) hHeld ?_
        rotate_left
        · intro v9 hS9
          try dsimp only at hS9
          go_simp
          try with_reducible rfl
        try simp only [Act.put, List.setIfInBounds_toArray, List.set_cons_zero, List.set_cons_succ, List.getElem_toArray, List.getElem_cons_zero, List.getElem_cons_succ]
        refine wpAnyH_take (i := 9) (v := ?_) rfl (by kernel_rfl) (by kernel_rfl) (by kernel_rfl) (fun _ _ _ h => h) (Or.inl ⟨by rfl, ?_⟩) hHeld ?_
        rotate_left
        · intro v9 hS9
          try dsimp only at hS9
          go_simp
          try with_reducible rfl
        try simp only [Act.put, List.setIfInBounds_toArray, List.set_cons_zero, List.set_cons_succ, List.getElem_toArray, List.getElem_cons_zero, List.getElem_cons_succ]
        refine wpAnyH_ready (rs := [4]) (by kernel_rfl) (by simp) ?_
        refine (AllReadyH.cons rfl (fun K hK => ?_) AllReadyH.nil)
        ·
          go_simp
          refine hK.out _ _ (⟨cur_alloc hHeld.1 _, hHeld.2.alloc _⟩) (fun hNext => ?_)
          clear hK K hHeld
          have hHeld := hNext
          clear hNext
          refine wpAnyH_ready (rs := [5]) (by kernel_rfl) (by simp) ?_
          refine (AllReadyH.cons rfl (fun K hK => ?_) AllReadyH.nil)
          ·
            go_simp
            go_wp2_with (go_at_call 38; refine (pickStr _ b a len cap w4.drew.heap.size pkB 5 (by decide) (by decide) (by show ¬ w4.heap.size = b; omega) HST.out hHeld.1).mono ?_; rintro e w5 ⟨⟨x, hx, rfl⟩, hc5, ho5⟩)
            have hxs := pkB_size x hx
            have hxz : (bs x).size ≤ 20 := by rw [bs_size]; exact hxs
            have HS5 : Cur w5 b a len cap ∧ Kept (fun k => k = b) w4 w5 := ⟨hc5, hHeld.2.trans (only_kept ho5)⟩
            clear hc5 ho5 hx
            refine hK.out _ _ (HS5) (fun hNext => ?_)
            clear hK K hHeld
            have hHeld := hNext
            clear hNext
            refine wpAnyH_take (i := 6) (v := ?_) rfl (by kernel_rfl) (by kernel_rfl) (by kernel_rfl) (fun _ _ _ h => h) (Or.inl ⟨by rfl, ?_⟩) hHeld ?_
            rotate_left
            · intro v9 hS9
              try dsimp only at hS9
              go_simp
              first | (rw [if_neg (by omega)]; done) | (rw [if_neg (by omega)]; exact rfl)
            try simp only [Act.put, List.setIfInBounds_toArray, List.set_cons_zero, List.set_cons_succ, List.getElem_toArray, List.getElem_cons_zero, List.getElem_cons_succ]
            refine wpAnyH_take (i := 10) (v := ?_) rfl (by kernel_rfl) (by kernel_rfl) (by kernel_rfl) (fun _ _ _ h => h) (Or.inl ⟨by rfl, ?_⟩) hHeld ?_
            rotate_left
            · intro v9 hS9
              try dsimp only at hS9
              go_simp
              first | (rw [if_neg (by omega)]; done) | (rw [if_neg (by omega)]; exact rfl)
            try simp only [Act.put, List.setIfInBounds_toArray, List.set_cons_zero, List.set_cons_succ, List.getElem_toArray, List.getElem_cons_zero, List.getElem_cons_succ]
            refine wpAnyH_take (i := 11) (v := ?_) rfl (by kernel_rfl) (by kernel_rfl) (by kernel_rfl) (fun _ _ _ h => h) (Or.inl ⟨by rfl, ?_⟩) hHeld ?_
            rotate_left
            · intro v9 hS9
              try dsimp only at hS9
              go_simp
              try with_reducible rfl
            try simp only [Act.put, List.setIfInBounds_toArray, List.set_cons_zero, List.set_cons_succ, List.getElem_toArray, List.getElem_cons_zero, List.getElem_cons_succ]
            refine wpAnyH_done (by kernel_rfl) ?_ _
            have HK5 : Hid (Cur w5 b a len cap ∧ Kept (fun k => k = b) w w5) := ⟨HS5.1, HK4.out.trans HS5.2⟩
            go_wp2
            go_ret
            exact ⟨⟨_, rfl, by rw [ByteArray.size_append, ByteArray.size_append]; omega⟩, HK5.out.1, HK5.out.2⟩
      have q1 : (d == 1) = false := beq_eq_false_iff_ne.2 d1
      go_wp2
      go_ret
      exact ⟨⟨J, rfl, by omega⟩, HC4.out, HK4.out⟩
end Go.Proofs.YtficonkpbohpeaaDoor.Jd0
