/- Walks of the program's usedOnly and partsAhead. -/
import Derived.Test.YtebejleeadofcaaPkXF38
namespace Go.Proofs.Ytebejleeadofcaa.Pg3
open Go.RowKit
open Nd0 Tm0 Tm5 Pl1 Ap0 Pg1 Pg2
open Ws1 (ret_int ret_bool)
set_option linter.unusedVariables false

/-- A node without what it has no use for. -/
def used (n : Nd) : Nd :=
  ⟨n.op, n.w, if numbered n.op then n.k else 0, if 0 < cnt n.op then n.a else 0, if 1 < cnt n.op ∨ quant n.op = true then n.b else 0, if 2 < cnt n.op then n.c else 0⟩

theorem agg_eq {a b c d e f a' b' c' d' e' f' : Int} (h : a = a' ∧ b = b' ∧ c = c' ∧ d = d' ∧ e = e' ∧ f = f') :
    Ending.returned (.agg #[.int .i64 a, .int .i64 b, .int .i64 c, .int .i64 d, .int .i64 e, .int .i64 f]) = .returned (.agg #[.int .i64 a', .int .i64 b', .int .i64 c', .int .i64 d', .int .i64 e', .int .i64 f']) := by
  obtain ⟨rfl, rfl, rfl, rfl, rfl, rfl⟩ := h; rfl

set_option maxHeartbeats 4000000 in
theorem iUsed (n : Nd) (w : World) :
    Calls Try.prog 54 #[.agg #[.int .i64 n.op, .int .i64 n.w, .int .i64 n.k, .int .i64 n.a, .int .i64 n.b, .int .i64 n.c]] w fun e w' => e = .returned (.agg #[.int .i64 (used n).op, .int .i64 (used n).w, .int .i64 (used n).k, .int .i64 (used n).a, .int .i64 (used n).b, .int .i64 (used n).c]) ∧ Below w.heap.size w w' := by
  have HU : ∀ m : Nd, m = used n → Hid (m = used n) := fun m h => h
  have hc3 := cnt_le n.op
  have HC : Hid (cnt n.op = 0 ∨ cnt n.op = 1 ∨ cnt n.op = 2 ∨ cnt n.op = 3) := by show _ ∨ _; omega
  have HV : Hid (used n = ⟨n.op, n.w, if numbered n.op then n.k else 0, if 0 < cnt n.op then n.a else 0, if 1 < cnt n.op ∨ quant n.op = true then n.b else 0, if 2 < cnt n.op then n.c else 0⟩) := rfl
  clear HU hc3
  generalize used n = u at HV ⊢
  cases hn : numbered n.op <;> cases hq : quant n.op <;> rcases HC.out with hc | hc | hc | hc
  all_goals
    have HN : Hid (numbered n.op = _) := hn
    have HQ : Hid (quant n.op = _) := hq
    have HK : Hid (cnt n.op = _) := hc
    go_enter Try.func54, Try.ntmps54
    go_wp2_with (first | (go_at_call 51; refine (iCount _ _).mono ?_; rintro e w' ⟨rfl, rfl⟩; rw [hc]) | (go_at_call 58; refine (iNumbered _ _).mono ?_; rintro e w' ⟨rfl, rfl⟩; rw [hn]) | (go_at_call 42; refine (iQuant _ _).mono ?_; rintro e w' ⟨rfl, rfl⟩; rw [hq]))
    refine bodyPost_ret (v := .agg #[.int .i64 u.op, .int .i64 u.w, .int .i64 u.k, .int .i64 u.a, .int .i64 u.b, .int .i64 u.c]) ?_ rfl ⟨rfl, ?_⟩
    · have h9 := HV.out
      rw [HN.out, HQ.out, HK.out] at h9
      simp at h9
      subst h9
      simp [results, Try.results54, go_sem]
    · exact (((Below.refl _ _).alloc (Nat.le_refl _) _).alloc (by simp) _).alloc (by simp; omega) _

/-- Whether all parts of a node stand ahead of place i. -/
def pahead (n : Nd) (i : Int) : Bool := (parts n).all fun p => decide (0 ≤ p ∧ p < i)

set_option maxHeartbeats 1000000 in
theorem iAhead (n : Nd) (i : Int) (w : World) :
    Calls Try.prog 55 #[.agg #[.int .i64 n.op, .int .i64 n.w, .int .i64 n.k, .int .i64 n.a, .int .i64 n.b, .int .i64 n.c], .int .i64 i] w fun e w' => e = .returned (.bool (pahead n i)) ∧ Below w.heap.size w w' := by
  go_enter Try.func55, Try.ntmps55
  go_wp2_with fail
  refine (iParts n _).mono ?_
  rintro e w1 ⟨⟨pa, pc, rfl, hpi⟩, hb1⟩
  have HP : Hid (Ints w1 pa (parts n)) := hpi.ints
  have HB1 : Hid (Below w.heap.size w w1) := ((Below.refl _ _).alloc (Nat.le_refl _) _).trans (hb1.mono (by simp))
  have hpl := parts_le n
  clear hpi hb1
  go_wp2_with fail
  go_loop [10] (fun q => ∃ k : Nat, k ≤ (parts n).length ∧ q = .int .i64 k ∧ ∀ j (h : j < (parts n).length), j < k → 0 ≤ (parts n)[j] ∧ (parts n)[j] < i) (fun q => (parts n).length - (intOf q).toNat)
  case atStart => exact ⟨0, Nat.zero_le _, rfl, fun j _ hj => by omega⟩
  case round =>
    obtain ⟨k, hk, rfl, hall⟩ := hrel
    have HA : Hid (∀ j (h : j < (parts n).length), j < k → 0 ≤ (parts n)[j] ∧ (parts n)[j] < i) := hall
    clear hall
    by_cases hlt : k < (parts n).length
    · have hlz : (k : Int) < ((parts n).length : Int) := by omega
      rcases HP.out.2 with h0 | ⟨pb, po, rfl, hpc⟩
      · omega
      have pk := hpc k hlt
      clear hpc
      have HBAD : Hid (¬ (0 ≤ (parts n)[k] ∧ (parts n)[k] < i) → pahead n i = false) := by
        show _ → _
        intro h
        unfold pahead
        rw [List.all_eq_false]
        exact ⟨_, List.getElem_mem hlt, by simpa using h⟩
      have HEQ : Hid (∀ x : Int, x = (parts n)[k] → (0 ≤ x ∧ x < i) → ∀ j (h : j < (parts n).length), j < k + 1 → 0 ≤ (parts n)[j] ∧ (parts n)[j] < i) := by
        show ∀ _, _
        intro x hx hxi j h hj
        by_cases e : j = k
        · subst e; subst hx; exact hxi
        · exact HA.out j h (by omega)
      obtain ⟨x, hx⟩ : ∃ x : Int, x = (parts n)[k] := ⟨_, rfl⟩
      rw [← hx] at pk HBAD
      have HX : Hid (x = (parts n)[k]) := hx
      clear hx
      by_cases h1 : x < 0
      · go_wp2
        go_ret
        exact ⟨ret_bool (HBAD.out (by omega)).symm, HB1.out⟩
      · by_cases h2 : i ≤ x
        · go_wp2
          go_ret
          exact ⟨ret_bool (HBAD.out (by omega)).symm, HB1.out⟩
        · go_wp2
          go_round
          case rel => exact ⟨k + 1, by omega, by go_num, HEQ.out x HX.out ⟨by omega, by omega⟩⟩
          case measure => simp [intOf]; omega
    · have HT : Hid (pahead n i = true) := by
        show pahead n i = true
        unfold pahead
        rw [List.all_eq_true]
        intro p hp
        obtain ⟨j, hj, rfl⟩ := List.getElem_of_mem hp
        simpa using HA.out j hj (by omega)
      go_wp2
      go_ret
      exact ⟨ret_bool HT.out.symm, HB1.out⟩

end Go.Proofs.Ytebejleeadofcaa.Pg3
