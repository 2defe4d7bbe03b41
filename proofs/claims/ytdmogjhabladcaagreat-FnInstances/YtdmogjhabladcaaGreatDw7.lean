/- The walk of the draw of any list of nodes. -/
import Derived.Test.YtdmogjhabladcaaGreatDw6
namespace Go.Proofs.YtdmogjhabladcaaGreat.Dw7
open Go.RowKit
open Nd0 Nd3 Ap2 Dw0 Dw1 Dw2 Dw3 Dw4 Dw5 Dw6
open Dr0 (Cur Only Bytes Off)
open Dr1 (once below)
open Dr4 (pickNew)
set_option linter.unusedVariables false

theorem four (p q r s : Int) : ∀ i, i < 4 → ∃ v : Int, (#[.int .i64 p, .int .i64 q, .int .i64 r, .int .i64 s] : Array Value)[i]? = some (.int .i64 v) := by
  intro i hi
  have h : i = 0 ∨ i = 1 ∨ i = 2 ∨ i = 3 := by omega
  rcases h with rfl | rfl | rfl | rfl
  · exact ⟨p, rfl⟩
  · exact ⟨q, rfl⟩
  · exact ⟨r, rfl⟩
  · exact ⟨s, rfl⟩

set_option maxRecDepth 100000 in
set_option maxHeartbeats 8000000 in
theorem anyNodes (w : World) (b : Nat) (a : Option Addr) (len cap : Nat) (hc : Cur w b a len cap) (hlo : Low a len b) :
    Calls Tryz.prog 82 #[.pointer (some ⟨b, 0, none⟩)] w (APost b a len cap w) := by
  have HC0 : Hid (Cur w b a len cap) := hc
  have HLO : Hid (Low a len b) := hlo
  have HBS : Hid (b < w.heap.size) := hc.lt
  clear hc hlo
  go_enter Tryz.func82, Tryz.ntmps82
  go_wp2_with fail
  refine (sentence _ b a len cap 8 HC0.out HLO.out (by omega) (by omega)).mono ?_
  rintro e w1 ⟨g, c, L, rfl, hd, hk, hl1, hl2, hg⟩
  have HD1 : Hid (Dr w1 b a len cap (.slice (some ⟨g, 0, none⟩) L.length c) L) := hd
  have HK1 : Hid (Kept (fun k => k = b) w w1) := hk
  have HG : Hid (w.heap.size ≤ g) := hg
  have HGB : Hid (b < g) := by have := HBS.out; show _ < _; omega
  have HCAP : Hid (L.length ≤ c) := own_cap hd.own
  clear hd hk hg HC0
  go_wp2_with fail
  refine (below _ b a len cap _ (by omega) (by omega) HD1.out.cur).mono ?_
  rintro e w2 ⟨⟨x2, rfl, hx2, hy2⟩, hc', ho'⟩
  obtain ⟨i, rfl⟩ := Int.eq_ofNat_of_zero_le hx2
  have HD2 : Hid (Dr w2 b a len cap (.slice (some ⟨g, 0, none⟩) L.length c) L) := HD1.out.only hc' ho'
  have HK2 : Hid (Kept (fun k => k = b) w w2) := HK1.out.trans (only_kept ho')
  have hil : i < L.length := by omega
  clear hc' ho' HD1 HK1 hx2
  go_wp2_with fail
  refine (below _ b a len cap _ (by omega) (by omega) HD2.out.cur).mono ?_
  rintro e w3 ⟨⟨x, rfl, hx3, hy3⟩, hc', ho'⟩
  have HD3 : Hid (Dr w3 b a len cap (.slice (some ⟨g, 0, none⟩) L.length c) L) := HD2.out.only hc' ho'
  have HK3 : Hid (Kept (fun k => k = b) w w3) := HK2.out.trans (only_kept ho')
  clear hc' ho' HD2 HK2
  by_cases e0 : x = 0
  ·
    have t0 : (x == 0) = true := by simpa using e0
    clear e0
    go_wp2_with fail
    refine (pickNew w3 b a len cap #[.int .i64 0, .int .i64 1, .int .i64 2, .int .i64 9] 3 4 (by omega) (by omega) (four _ _ _ _) HD3.out.cur).mono ?_
    rintro e w4 ⟨⟨x4, rfl⟩, hc', ho'⟩
    have HC4 : Hid (Cur w4 b a len cap) := hc'
    have HK4 : Hid (Kept (fun k => k = b) w w4) := HK3.out.trans (only_kept ho')
    have HW9 : Hid (Wild w4 g L.length) := (own_wild HD3.out.own).kept (only_kept ho') (by have := HGB.out; show ¬ g = b; omega)
    obtain ⟨⟨z9, hz9⟩, hf9⟩ := HW9.out (i * 6 + 1) (by omega)
    clear hc' ho'
    go_wp2
    go_ret
    exact apost_set HLO.out HW9.out HGB.out HG.out HC4.out HK4.out hl1 (by omega) HCAP.out (by omega)
  have t0 : (x == 0) = false := by simpa using e0
  by_cases e1 : x = 1
  ·
    have t1 : (x == 1) = true := by simpa using e1
    clear e0 e1
    go_wp2_with fail
    refine (below _ b a len cap _ (by omega) (by omega) HD3.out.cur).mono ?_
    rintro e w4 ⟨⟨x4, rfl, hx4, hy4⟩, hc', ho'⟩
    have HC4 : Hid (Cur w4 b a len cap) := hc'
    have HK4 : Hid (Kept (fun k => k = b) w w4) := HK3.out.trans (only_kept ho')
    have HW9 : Hid (Wild w4 g L.length) := (own_wild HD3.out.own).kept (only_kept ho') (by have := HGB.out; show ¬ g = b; omega)
    obtain ⟨⟨z9, hz9⟩, hf9⟩ := HW9.out (i * 6 + 3) (by omega)
    clear hc' ho'
    go_wp2
    go_ret
    exact apost_set HLO.out HW9.out HGB.out HG.out HC4.out HK4.out hl1 (by omega) HCAP.out (by omega)
  have t1 : (x == 1) = false := by simpa using e1
  by_cases e2 : x = 2
  ·
    have t2 : (x == 2) = true := by simpa using e2
    clear e0 e1 e2
    go_wp2_with fail
    refine (pickNew w3 b a len cap #[.int .i64 (-1), .int .i64 0, .int .i64 1, .int .i64 8] 3 4 (by omega) (by omega) (four _ _ _ _) HD3.out.cur).mono ?_
    rintro e w4 ⟨⟨x4, rfl⟩, hc', ho'⟩
    have HC4 : Hid (Cur w4 b a len cap) := hc'
    have HK4 : Hid (Kept (fun k => k = b) w w4) := HK3.out.trans (only_kept ho')
    have HW9 : Hid (Wild w4 g L.length) := (own_wild HD3.out.own).kept (only_kept ho') (by have := HGB.out; show ¬ g = b; omega)
    obtain ⟨⟨z9, hz9⟩, hf9⟩ := HW9.out (i * 6 + 2) (by omega)
    clear hc' ho'
    go_wp2
    go_ret
    exact apost_set HLO.out HW9.out HGB.out HG.out HC4.out HK4.out hl1 (by omega) HCAP.out (by omega)
  have t2 : (x == 2) = false := by simpa using e2
  by_cases e3 : x = 3
  ·
    have t3 : (x == 3) = true := by simpa using e3
    clear e0 e1 e2 e3
    go_wp2_with fail
    refine (below _ b a len cap _ (by omega) (by omega) HD3.out.cur).mono ?_
    rintro e w4 ⟨⟨x4, rfl, hx4, hy4⟩, hc', ho'⟩
    have HC4 : Hid (Cur w4 b a len cap) := hc'
    have HK4 : Hid (Kept (fun k => k = b) w w4) := HK3.out.trans (only_kept ho')
    have HW9 : Hid (Wild w4 g L.length) := (own_wild HD3.out.own).kept (only_kept ho') (by have := HGB.out; show ¬ g = b; omega)
    obtain ⟨⟨z9, hz9⟩, hf9⟩ := HW9.out (i * 6) (by omega)
    clear hc' ho'
    go_wp2
    go_ret
    exact apost_set HLO.out HW9.out HGB.out HG.out HC4.out HK4.out hl1 (by omega) HCAP.out (by omega)
  have t3 : (x == 3) = false := by simpa using e3
  by_cases e4 : x = 4
  ·
    have t4 : (x == 4) = true := by simpa using e4
    clear e0 e1 e2 e3 e4
    have hcc : i + 1 ≤ c := by have := HCAP.out; omega
    have hcz : (i : Int) + 1 ≤ (c : Int) := by omega
    go_wp2
    go_ret
    have hwi := own_wild HD3.out.own
    exact apost (n := i + 1) (fun p hp => hwi p (by omega)) HGB.out HD3.out.cur HK3.out (by omega) (by omega) (by omega)
  have t4 : (x == 4) = false := by simpa using e4
  by_cases e5 : x = 5
  ·
    have t5 : (x == 5) = true := by simpa using e5
    clear e0 e1 e2 e3 e4 e5
    by_cases hi0 : 0 < i
    · have hiz : (0 : Int) < (i : Int) := by omega
      obtain ⟨⟨z9, hz9⟩, hf9⟩ := (own_wild HD3.out.own) (i * 6 + 1) (by omega)
      have hB3 : b + 1 ≤ w3.heap.size := HD3.out.size
      go_wp2_with (at_builtin; go_must (refine app_node w3 rfl _ _ rfl (b + 1) (.slice (some ⟨g, 0, none⟩) L.length c) L ⟨2, z9, 0, i, 0, 0⟩ rfl w3.heap.size rfl rfl HD3.out.own hB3 (by omega) ?_; intro g5 cp5 w5 ho5 hk5 hg5))
      have HD5 : Hid (Dr w5 b a len cap (.slice (some ⟨g5, 0, none⟩) (L.length + 1) cp5) (L ++ [⟨2, z9, 0, i, 0, 0⟩])) := HD3.out.grow hk5 ho5
      have HG5 : Hid (w.heap.size ≤ g5) := by
        have h1 := HG.out
        have h2 := HK3.out.size
        rcases hg5 with e | e
        · cases e; exact h1
        · show _ ≤ _; omega
      have HK5 : Hid (Kept (fun k => k = b) w w5) := by
        refine ⟨hk5.os.trans HK3.out.os, hk5.tape.trans HK3.out.tape, hk5.output.trans HK3.out.output, Nat.le_trans HK3.out.size hk5.size, fun k hk hn => ?_⟩
        rw [hk5.block k (Nat.lt_of_lt_of_le hk HK3.out.size) (fun e => by have h1 : g = k := Option.some.inj e; have := HG.out; omega)]
        exact HK3.out.block k hk hn
      clear ho5 hk5 hg5
      go_wp2
      go_ret
      have e9 : (L ++ [(⟨2, z9, 0, i, 0, 0⟩ : Nd)]).length = L.length + 1 := by simp
      have hw9 := own_wild (w := w5) (B := b + 1) (g := g5) (c := cp5) (L := L ++ [⟨2, z9, 0, i, 0, 0⟩]) (by rw [e9]; exact HD5.out.own)
      have hc9 := own_cap HD5.out.own
      rw [e9] at hw9 hc9
      exact apost hw9 (by have := HBS.out; have := HG5.out; omega) HD5.out.cur HK5.out (by omega) (by omega) hc9
    · have hiz : ¬ (0 : Int) < (i : Int) := by omega
      go_wp2
      go_ret
      exact apost (own_wild HD3.out.own) HGB.out HD3.out.cur HK3.out hl1 (by omega) HCAP.out
  have t5 : (x == 5) = false := by simpa using e5
  clear e0 e1 e2 e3 e4 e5
  go_wp2
  go_ret
  exact apost (own_wild HD3.out.own) HGB.out HD3.out.cur HK3.out hl1 (by omega) HCAP.out

end Go.Proofs.YtdmogjhabladcaaGreat.Dw7
