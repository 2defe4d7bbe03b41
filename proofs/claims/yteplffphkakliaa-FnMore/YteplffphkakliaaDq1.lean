/- Rows of flags: the model's Turned, Owner of both. Written by tools/mkdq1.py. -/
import Derived.Test.YteplffphkakliaaDq0
import Derived.Test.YteplffphkakliaaTe1
namespace Go.Proofs.Yteplffphkakliaa.Dq1
open Go.RowKit
open Nd0 Nd1 Nd2 Nd3 Ap1 Nd6 Dq0
open Ta2 (bitB)
open Tc2 (sInT sInF)
open Te1 (iBitOk)
set_option linter.unusedVariables false

set_option maxRecDepth 100000 in
set_option maxHeartbeats 4000000 in
theorem sTurned (w : World) (a : Option Addr) (l : List Bool) (c : Nat) (hN : Bools w a l) (hl : l.length ≤ 1048576) :
    Calls Try.prog 35 #[.slice a l.length c] w fun e w' => (∃ a' c', e = .returned (.slice a' (turnL l).length c') ∧ WBools w' w.heap.size a' (turnL l)) ∧ Below w.heap.size w w' := by
  have HN : Hid (Bools w a l) := hN
  clear hN
  have HAL : Hid (Below w.heap.size w (w.alloc (.cells #[] 4))) := (Below.refl _ _).alloc (Nat.le_refl _) _
  have HO0 : Hid (Owb (w.alloc (.cells #[] 4)) w.heap.size (.slice (some ⟨w.heap.size, 0, none⟩) 0 0) []) := Owb.lit w _ (Nat.le_refl _)
  go_enter Try.func35, Try.ntmps35
  go_wp2
  go_loopw [3, 4] (fun v i wr => ∃ k : Nat, k ≤ l.length ∧ i = .int .i64 k ∧ Owb wr w.heap.size v (mapTo not l k) ∧ Below w.heap.size w wr) (fun _ i _ => l.length - (intOf i).toNat)
  case atStart => exact ⟨0, Nat.zero_le _, rfl, HO0.out, HAL.out⟩
  case round =>
    obtain ⟨k, hk, rfl, ho, hb⟩ := hrel
    have HO : Hid (Owb wr w.heap.size u3 (mapTo not l k)) := ho
    have HB : Hid (Below w.heap.size w wr) := hb
    clear ho
    by_cases hlt : k < l.length
    · have HC := HN.out.below hb
      have hsz : w.heap.size ≤ wr.heap.size := hb.size
      clear hb
      rcases HC.2 with h0 | ⟨xb, xo, rfl, hc⟩
      · omega
      have p0 := hc k hlt
      clear hc HC
      have hlz : (k : Int) < (l.length : Int) := by omega
      have HT : Hid (mapTo not l (k + 1) = mapTo not l k ++ [not l[k]]) := mapTo_next hlt
      have HL : Hid ((mapTo not l k).length = k) := mapTo_len hk
      generalize l[k] = x at *
      go_wp2_with (at_builtin; go_must (refine app_bool _ rfl _ _ rfl w.heap.size u3 (mapTo not l k) (!x) rfl rfl HO.out hsz (by have := HL.out; omega) ?_; intro g5 cp5 w5 ho5 hk5 hg5; have HO5 : Hid (Owb w5 w.heap.size (.slice (some ⟨g5, 0, none⟩) ((mapTo not l k).length + 1) cp5) (mapTo not l k ++ [(!x)])) := ho5; have HB5 : Hid (Below w.heap.size w w5) := HB.out.trans (hk5.below (fun b hb => (HO.out.lt _ hb).1) HB.out.size); clear ho5 hk5 hg5))
      go_roundw
      case rel => exact ⟨k + 1, by omega, by go_num, by rw [HT.out]; exact HO5.out, HB5.out⟩
      case measure => simp [intOf]; omega
    · have HE : Hid (mapTo not l k = turnL l) := mapTo_all hlt
      obtain ⟨av, cv, hv, hwb⟩ := HO.out.form
      rw [HE.out] at hv hwb
      subst hv
      have HW : Hid (WBools wr w.heap.size av (turnL l)) := hwb
      clear hwb hb HO
      go_wp2
      go_ret
      exact ⟨⟨_, _, rfl, HW.out⟩, HB.out⟩

/-- Whose each flag is. -/
def ownF (v : Int) (x : Bool) : Bool := x == (v == 0)
def ownL (v : Int) (l : List Bool) : List Bool := if bitB v = true then l.map (ownF v) else []
theorem ownL_yes {v : Int} {l : List Bool} (h : bitB v = true) : ownL v l = l.map (ownF v) := if_pos h
theorem ownL_no {v : Int} {l : List Bool} (h : bitB v = false) : ownL v l = [] := if_neg (by rw [h]; simp)
theorem ownL_le (v : Int) (l : List Bool) : (ownL v l).length ≤ l.length := by
  unfold ownL
  split
  · rw [List.length_map]; exact Nat.le_refl _
  · exact Nat.zero_le _

set_option maxRecDepth 100000 in
set_option maxHeartbeats 4000000 in
theorem iOwner (w : World) (a : Option Addr) (l : List Bool) (c : Nat) (v : Int) (hN : Bools w a l) (hl : l.length ≤ 1048576) :
    Calls Try.prog 21 #[.slice a l.length c, .int .i64 v] w fun e w' => (∃ a' c', e = .returned (.slice a' (ownL v l).length c') ∧ WBools w' w.heap.size a' (ownL v l)) ∧ Below w.heap.size w w' := by
  have HN : Hid (Bools w a l) := hN
  clear hN
  have HAL : Hid (Below w.heap.size w (w.alloc (.cells #[] 4))) := (Below.refl _ _).alloc (Nat.le_refl _) _
  have HO0 : Hid (Owb (w.alloc (.cells #[] 4)) w.heap.size (.slice (some ⟨w.heap.size, 0, none⟩) 0 0) []) := Owb.lit w _ (Nat.le_refl _)
  cases hB : bitB v
  · have HBK : Hid (∀ W, Calls Try.prog 57 #[.int .i64 v] W fun e w' => e = .returned (.bool false) ∧ w' = W) := fun W => by have := iBitOk v W; rwa [hB] at this
    rw [ownL_no hB]
    clear hB
    go_enter Try.func21, Try.ntmps21
    go_wp2_with (go_at_call 57; refine (HBK.out _).mono ?_; rintro e w' ⟨rfl, rfl⟩)
    go_ret
    exact ⟨⟨_, _, rfl, Nat.zero_le _, .inl rfl⟩, HAL.out⟩
  · have HBK : Hid (∀ W, Calls Try.prog 57 #[.int .i64 v] W fun e w' => e = .returned (.bool true) ∧ w' = W) := fun W => by have := iBitOk v W; rwa [hB] at this
    rw [ownL_yes hB]
    have hv : v = 0 ∨ v = 1 := of_decide_eq_true hB
    clear hB
    rcases hv with rfl | rfl
    · go_enter Try.func21, Try.ntmps21
      go_wp2_with (go_at_call 57; refine (HBK.out _).mono ?_; rintro e w' ⟨rfl, rfl⟩)
      go_loopw [5, 15] (fun v i wr => ∃ k : Nat, k ≤ l.length ∧ i = .int .i64 k ∧ Owb wr w.heap.size v (mapTo (ownF 0) l k) ∧ Below w.heap.size w wr) (fun _ i _ => l.length - (intOf i).toNat)
      case atStart => exact ⟨0, Nat.zero_le _, rfl, HO0.out, HAL.out⟩
      case round =>
        obtain ⟨k, hk, rfl, ho, hb⟩ := hrel
        have HO : Hid (Owb wr w.heap.size u5 (mapTo (ownF 0) l k)) := ho
        have HB : Hid (Below w.heap.size w wr) := hb
        clear ho
        by_cases hlt : k < l.length
        · have HC := HN.out.below hb
          have hsz : w.heap.size ≤ wr.heap.size := hb.size
          clear hb
          rcases HC.2 with h0 | ⟨xb, xo, rfl, hc⟩
          · omega
          have p0 := hc k hlt
          clear hc HC
          have hlz : (k : Int) < (l.length : Int) := by omega
          have HT : Hid (mapTo (ownF 0) l (k + 1) = mapTo (ownF 0) l k ++ [(ownF 0) l[k]]) := mapTo_next hlt
          have HL : Hid ((mapTo (ownF 0) l k).length = k) := mapTo_len hk
          have hF : ownF 0 l[k] = l[k] := by cases l[k] <;> rfl
          rw [hF] at HT
          clear hF
          generalize l[k] = x at *
          go_wp2_with (at_builtin; go_must (refine app_bool _ rfl _ _ rfl w.heap.size u5 (mapTo (ownF 0) l k) x rfl rfl HO.out hsz (by have := HL.out; omega) ?_; intro g5 cp5 w5 ho5 hk5 hg5; have HO5 : Hid (Owb w5 w.heap.size (.slice (some ⟨g5, 0, none⟩) ((mapTo (ownF 0) l k).length + 1) cp5) (mapTo (ownF 0) l k ++ [x])) := ho5; have HB5 : Hid (Below w.heap.size w w5) := HB.out.trans (hk5.below (fun b hb => (HO.out.lt _ hb).1) HB.out.size); clear ho5 hk5 hg5))
          go_roundw
          case rel => exact ⟨k + 1, by omega, by go_num, by rw [HT.out]; exact HO5.out, HB5.out⟩
          case measure => simp [intOf]; omega
        · have HE : Hid (mapTo (ownF 0) l k = l.map (ownF 0)) := mapTo_all hlt
          obtain ⟨av, cv, hv, hwb⟩ := HO.out.form
          rw [HE.out] at hv hwb
          subst hv
          have HW : Hid (WBools wr w.heap.size av (l.map (ownF 0))) := hwb
          clear hwb hb HO
          go_wp2
          go_ret
          exact ⟨⟨_, _, rfl, HW.out⟩, HB.out⟩
    · go_enter Try.func21, Try.ntmps21
      go_wp2_with (go_at_call 57; refine (HBK.out _).mono ?_; rintro e w' ⟨rfl, rfl⟩)
      go_loopw [5, 15] (fun v i wr => ∃ k : Nat, k ≤ l.length ∧ i = .int .i64 k ∧ Owb wr w.heap.size v (mapTo (ownF 1) l k) ∧ Below w.heap.size w wr) (fun _ i _ => l.length - (intOf i).toNat)
      case atStart => exact ⟨0, Nat.zero_le _, rfl, HO0.out, HAL.out⟩
      case round =>
        obtain ⟨k, hk, rfl, ho, hb⟩ := hrel
        have HO : Hid (Owb wr w.heap.size u5 (mapTo (ownF 1) l k)) := ho
        have HB : Hid (Below w.heap.size w wr) := hb
        clear ho
        by_cases hlt : k < l.length
        · have HC := HN.out.below hb
          have hsz : w.heap.size ≤ wr.heap.size := hb.size
          clear hb
          rcases HC.2 with h0 | ⟨xb, xo, rfl, hc⟩
          · omega
          have p0 := hc k hlt
          clear hc HC
          have hlz : (k : Int) < (l.length : Int) := by omega
          have HT : Hid (mapTo (ownF 1) l (k + 1) = mapTo (ownF 1) l k ++ [(ownF 1) l[k]]) := mapTo_next hlt
          have HL : Hid ((mapTo (ownF 1) l k).length = k) := mapTo_len hk
          have hF : ownF 1 l[k] = !l[k] := by cases l[k] <;> rfl
          rw [hF] at HT
          clear hF
          generalize l[k] = x at *
          go_wp2_with (at_builtin; go_must (refine app_bool _ rfl _ _ rfl w.heap.size u5 (mapTo (ownF 1) l k) (!x) rfl rfl HO.out hsz (by have := HL.out; omega) ?_; intro g5 cp5 w5 ho5 hk5 hg5; have HO5 : Hid (Owb w5 w.heap.size (.slice (some ⟨g5, 0, none⟩) ((mapTo (ownF 1) l k).length + 1) cp5) (mapTo (ownF 1) l k ++ [(!x)])) := ho5; have HB5 : Hid (Below w.heap.size w w5) := HB.out.trans (hk5.below (fun b hb => (HO.out.lt _ hb).1) HB.out.size); clear ho5 hk5 hg5))
          go_roundw
          case rel => exact ⟨k + 1, by omega, by go_num, by rw [HT.out]; exact HO5.out, HB5.out⟩
          case measure => simp [intOf]; omega
        · have HE : Hid (mapTo (ownF 1) l k = l.map (ownF 1)) := mapTo_all hlt
          obtain ⟨av, cv, hv, hwb⟩ := HO.out.form
          rw [HE.out] at hv hwb
          subst hv
          have HW : Hid (WBools wr w.heap.size av (l.map (ownF 1))) := hwb
          clear hwb hb HO
          go_wp2
          go_ret
          exact ⟨⟨_, _, rfl, HW.out⟩, HB.out⟩

set_option maxRecDepth 100000 in
set_option maxHeartbeats 4000000 in
theorem sOwner (w : World) (a : Option Addr) (l : List Bool) (c : Nat) (v : Int) (hN : Bools w a l) (hl : l.length ≤ 1048576) :
    Calls Try.prog 28 #[.slice a l.length c, .int .i64 v] w fun e w' => (∃ a' c', e = .returned (.slice a' (ownL v l).length c') ∧ WBools w' w.heap.size a' (ownL v l)) ∧ Below w.heap.size w w' := by
  have HN : Hid (Bools w a l) := hN
  clear hN
  have HAL : Hid (Below w.heap.size w (w.alloc (.cells #[] 4))) := (Below.refl _ _).alloc (Nat.le_refl _) _
  have HO0 : Hid (Owb (w.alloc (.cells #[] 4)) w.heap.size (.slice (some ⟨w.heap.size, 0, none⟩) 0 0) []) := Owb.lit w _ (Nat.le_refl _)
  cases hB : bitB v
  · have HIN : Hid (∀ W, Calls Try.prog 62 #[.int .i64 v, .int .i64 0, .int .i64 1] W fun e w' => e = .returned (.bool false) ∧ w' = W) := fun W => sInF W (fun q => by have := of_decide_eq_false hB; omega)
    rw [ownL_no hB]
    clear hB
    go_enter Try.func28, Try.ntmps28
    go_wp2
    go_loopw [5, 6] (fun v i wr => v = .slice (some ⟨w.heap.size, 0, none⟩) 0 0 ∧ i = .int .i64 0 ∧ wr = w.alloc (.cells #[] 4)) (fun _ i _ => 0)
    case atStart => exact ⟨rfl, rfl, rfl⟩
    case round =>
      obtain ⟨rfl, rfl, rfl⟩ := hrel
      by_cases hlt : 0 < l.length
      · have hlz : (0 : Int) < (l.length : Int) := by omega
        go_wp2_with (go_at_call 62; refine (HIN.out _).mono ?_; rintro e w' ⟨rfl, rfl⟩)
        go_ret
        exact ⟨⟨_, _, rfl, Nat.zero_le _, .inl rfl⟩, HAL.out⟩
      · go_wp2
        go_ret
        exact ⟨⟨_, _, rfl, Nat.zero_le _, .inl rfl⟩, HAL.out⟩
  · have HIN : Hid (∀ W, Calls Try.prog 62 #[.int .i64 v, .int .i64 0, .int .i64 1] W fun e w' => e = .returned (.bool true) ∧ w' = W) := fun W => sInT W (by have := of_decide_eq_true hB; omega)
    rw [ownL_yes hB]
    have hv : v = 0 ∨ v = 1 := of_decide_eq_true hB
    clear hB
    rcases hv with rfl | rfl
    · go_enter Try.func28, Try.ntmps28
      go_wp2
      go_loopw [5, 6] (fun v i wr => ∃ k : Nat, k ≤ l.length ∧ i = .int .i64 k ∧ Owb wr w.heap.size v (mapTo (ownF 0) l k) ∧ Below w.heap.size w wr) (fun _ i _ => l.length - (intOf i).toNat)
      case atStart => exact ⟨0, Nat.zero_le _, rfl, HO0.out, HAL.out⟩
      case round =>
        obtain ⟨k, hk, rfl, ho, hb⟩ := hrel
        have HO : Hid (Owb wr w.heap.size u5 (mapTo (ownF 0) l k)) := ho
        have HB : Hid (Below w.heap.size w wr) := hb
        clear ho
        by_cases hlt : k < l.length
        · have HC := HN.out.below hb
          have hsz : w.heap.size ≤ wr.heap.size := hb.size
          clear hb
          rcases HC.2 with h0 | ⟨xb, xo, rfl, hc⟩
          · omega
          have p0 := hc k hlt
          clear hc HC
          have hlz : (k : Int) < (l.length : Int) := by omega
          have HT : Hid (mapTo (ownF 0) l (k + 1) = mapTo (ownF 0) l k ++ [(ownF 0) l[k]]) := mapTo_next hlt
          have HL : Hid ((mapTo (ownF 0) l k).length = k) := mapTo_len hk
          have hF : ownF 0 l[k] = l[k] := by cases l[k] <;> rfl
          rw [hF] at HT
          clear hF
          generalize l[k] = x at *
          go_wp2_with (first | (go_at_call 62; refine (HIN.out _).mono ?_; rintro e w' ⟨rfl, rfl⟩) | (at_builtin; go_must (refine app_bool _ rfl _ _ rfl w.heap.size u5 (mapTo (ownF 0) l k) x rfl rfl HO.out hsz (by have := HL.out; omega) ?_; intro g5 cp5 w5 ho5 hk5 hg5; have HO5 : Hid (Owb w5 w.heap.size (.slice (some ⟨g5, 0, none⟩) ((mapTo (ownF 0) l k).length + 1) cp5) (mapTo (ownF 0) l k ++ [x])) := ho5; have HB5 : Hid (Below w.heap.size w w5) := HB.out.trans (hk5.below (fun b hb => (HO.out.lt _ hb).1) HB.out.size); clear ho5 hk5 hg5)))
          go_roundw
          case rel => exact ⟨k + 1, by omega, by go_num, by rw [HT.out]; exact HO5.out, HB5.out⟩
          case measure => simp [intOf]; omega
        · have HE : Hid (mapTo (ownF 0) l k = l.map (ownF 0)) := mapTo_all hlt
          obtain ⟨av, cv, hv, hwb⟩ := HO.out.form
          rw [HE.out] at hv hwb
          subst hv
          have HW : Hid (WBools wr w.heap.size av (l.map (ownF 0))) := hwb
          clear hwb hb HO
          go_wp2
          go_ret
          exact ⟨⟨_, _, rfl, HW.out⟩, HB.out⟩
    · go_enter Try.func28, Try.ntmps28
      go_wp2
      go_loopw [5, 6] (fun v i wr => ∃ k : Nat, k ≤ l.length ∧ i = .int .i64 k ∧ Owb wr w.heap.size v (mapTo (ownF 1) l k) ∧ Below w.heap.size w wr) (fun _ i _ => l.length - (intOf i).toNat)
      case atStart => exact ⟨0, Nat.zero_le _, rfl, HO0.out, HAL.out⟩
      case round =>
        obtain ⟨k, hk, rfl, ho, hb⟩ := hrel
        have HO : Hid (Owb wr w.heap.size u5 (mapTo (ownF 1) l k)) := ho
        have HB : Hid (Below w.heap.size w wr) := hb
        clear ho
        by_cases hlt : k < l.length
        · have HC := HN.out.below hb
          have hsz : w.heap.size ≤ wr.heap.size := hb.size
          clear hb
          rcases HC.2 with h0 | ⟨xb, xo, rfl, hc⟩
          · omega
          have p0 := hc k hlt
          clear hc HC
          have hlz : (k : Int) < (l.length : Int) := by omega
          have HT : Hid (mapTo (ownF 1) l (k + 1) = mapTo (ownF 1) l k ++ [(ownF 1) l[k]]) := mapTo_next hlt
          have HL : Hid ((mapTo (ownF 1) l k).length = k) := mapTo_len hk
          have hF : ownF 1 l[k] = !l[k] := by cases l[k] <;> rfl
          rw [hF] at HT
          clear hF
          generalize l[k] = x at *
          go_wp2_with (first | (go_at_call 62; refine (HIN.out _).mono ?_; rintro e w' ⟨rfl, rfl⟩) | (at_builtin; go_must (refine app_bool _ rfl _ _ rfl w.heap.size u5 (mapTo (ownF 1) l k) (!x) rfl rfl HO.out hsz (by have := HL.out; omega) ?_; intro g5 cp5 w5 ho5 hk5 hg5; have HO5 : Hid (Owb w5 w.heap.size (.slice (some ⟨g5, 0, none⟩) ((mapTo (ownF 1) l k).length + 1) cp5) (mapTo (ownF 1) l k ++ [(!x)])) := ho5; have HB5 : Hid (Below w.heap.size w w5) := HB.out.trans (hk5.below (fun b hb => (HO.out.lt _ hb).1) HB.out.size); clear ho5 hk5 hg5)))
          go_roundw
          case rel => exact ⟨k + 1, by omega, by go_num, by rw [HT.out]; exact HO5.out, HB5.out⟩
          case measure => simp [intOf]; omega
        · have HE : Hid (mapTo (ownF 1) l k = l.map (ownF 1)) := mapTo_all hlt
          obtain ⟨av, cv, hv, hwb⟩ := HO.out.form
          rw [HE.out] at hv hwb
          subst hv
          have HW : Hid (WBools wr w.heap.size av (l.map (ownF 1))) := hwb
          clear hwb hb HO
          go_wp2
          go_ret
          exact ⟨⟨_, _, rfl, HW.out⟩, HB.out⟩

end Go.Proofs.Yteplffphkakliaa.Dq1
