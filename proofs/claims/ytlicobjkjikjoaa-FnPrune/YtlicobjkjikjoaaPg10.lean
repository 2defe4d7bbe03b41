/- The walk of the program's moved and Prune. -/
import Derived.Test.YtlicobjkjikjoaaIc2
import Derived.Test.YtlicobjkjikjoaaPg2
import Derived.Test.YtlicobjkjikjoaaPkA
namespace Go.Proofs.Ytlicobjkjikjoaa.Pg10
open Go.RowKit
open Nd0 Nd3 Tm0 Tm1 Tm2 Tm3 Tm8 Ap2 Pg1 Pg2 Rw0
open Lx1 (ITermOk)
open Lx2 (IReached)
open Ws1 (ret_int ret_bool)
set_option linter.unusedVariables false

/-- A node with its parts told by other places. -/
def mv (P : Nat → Int) (n : Nd) : Nd :=
  ⟨n.op, n.w, n.k, if 0 < cnt n.op then P n.a.toNat else n.a, if 1 < cnt n.op then P n.b.toNat else n.b, if 2 < cnt n.op then P n.c.toNat else n.c⟩

set_option maxHeartbeats 4000000 in
theorem iMoved (n : Nd) (w : World) (gp len cap : Nat) (P : Nat → Int) (hr : Row w gp len (fun i => .int .i64 (P i))) (hp : ∀ p ∈ parts n, 0 ≤ p ∧ p < (len : Int)) (hl : len ≤ 80) :
    Calls Try.prog 32 #[.agg #[.int .i64 n.op, .int .i64 n.w, .int .i64 n.k, .int .i64 n.a, .int .i64 n.b, .int .i64 n.c], .slice (some ⟨gp, 0, none⟩) len cap] w fun e w' =>
      e = .returned (.agg #[.int .i64 (mv P n).op, .int .i64 (mv P n).w, .int .i64 (mv P n).k, .int .i64 (mv P n).a, .int .i64 (mv P n).b, .int .i64 (mv P n).c]) ∧ Below w.heap.size w w' := by
  have hc3 := cnt_le n.op
  have hcp := cnt_parts n
  have HC : Hid (cnt n.op = 0 ∨ cnt n.op = 1 ∨ cnt n.op = 2 ∨ cnt n.op = 3) := by show _ ∨ _; omega
  have HV : Hid (mv P n = ⟨n.op, n.w, n.k, if 0 < cnt n.op then P n.a.toNat else n.a, if 1 < cnt n.op then P n.b.toNat else n.b, if 2 < cnt n.op then P n.c.toNat else n.c⟩) := rfl
  have HPC := parts_cases n
  have HA : Hid (0 < cnt n.op → ∃ j : Nat, n.a = (j : Int) ∧ j < len ∧ w.cell? ⟨gp, j, none⟩ = some (.int .i64 (P n.a.toNat))) := by
    show _ → _
    intro h
    have hm : n.a ∈ parts n := by
      rcases HPC with e | e | e | e
      · rw [e] at hcp; simp at hcp; omega
      · rw [e]; simp
      · rw [e]; simp
      · rw [e]; simp
    obtain ⟨h0, h1⟩ := hp _ hm
    exact ⟨n.a.toNat, by omega, by omega, (hr n.a.toNat (by omega)).1⟩
  have HB : Hid (1 < cnt n.op → ∃ j : Nat, n.b = (j : Int) ∧ j < len ∧ w.cell? ⟨gp, j, none⟩ = some (.int .i64 (P n.b.toNat))) := by
    show _ → _
    intro h
    have hm : n.b ∈ parts n := by
      rcases HPC with e | e | e | e
      · rw [e] at hcp; simp at hcp; omega
      · rw [e] at hcp; simp at hcp; omega
      · rw [e]; simp
      · rw [e]; simp
    obtain ⟨h0, h1⟩ := hp _ hm
    exact ⟨n.b.toNat, by omega, by omega, (hr n.b.toNat (by omega)).1⟩
  have HD : Hid (2 < cnt n.op → ∃ j : Nat, n.c = (j : Int) ∧ j < len ∧ w.cell? ⟨gp, j, none⟩ = some (.int .i64 (P n.c.toNat))) := by
    show _ → _
    intro h
    have hm : n.c ∈ parts n := by
      rcases HPC with e | e | e | e
      · rw [e] at hcp; simp at hcp; omega
      · rw [e] at hcp; simp at hcp; omega
      · rw [e] at hcp; simp at hcp; omega
      · rw [e]; simp
    obtain ⟨h0, h1⟩ := hp _ hm
    exact ⟨n.c.toNat, by omega, by omega, (hr n.c.toNat (by omega)).1⟩
  clear hc3 hcp HPC hr hp
  generalize mv P n = u at HV ⊢
  generalize P n.a.toNat = xa at HV HA
  generalize P n.b.toNat = xb at HV HB
  generalize P n.c.toNat = xc at HV HD
  obtain ⟨op, m, k, a, b, c⟩ := n
  dsimp only at *
  rcases HC.out with hc | hc | hc | hc
  · have HK : Hid (cnt op = _) := hc
    clear HA HB HD
    go_enter Try.func32, Try.ntmps32
    go_wp2_with (go_at_call 49; refine (iCount _ _).mono ?_; rintro e w' ⟨rfl, rfl⟩; rw [hc])
    refine bodyPost_ret (v := .agg #[.int .i64 u.op, .int .i64 u.w, .int .i64 u.k, .int .i64 u.a, .int .i64 u.b, .int .i64 u.c]) ?_ rfl ⟨rfl, ?_⟩
    · have h9 := HV.out
      rw [HK.out] at h9
      simp at h9
      subst h9
      simp [results, Try.results32, go_sem]
    · exact ((Below.refl _ _).alloc (Nat.le_refl _) _).alloc (by simp) _
  · have HK : Hid (cnt op = _) := hc
    obtain ⟨ja, rfl, hja, pa⟩ := HA.out (by omega)
    have hz1 : (ja : Int) < (len : Int) := by omega
    have hn0 : gp < w.heap.size := lt_of_cell (p := ⟨gp, ja, none⟩) pa
    have hn1 : gp < w.heap.size + 1 := by omega
    clear HA HB HD
    go_enter Try.func32, Try.ntmps32
    go_wp2_with (go_at_call 49; refine (iCount _ _).mono ?_; rintro e w' ⟨rfl, rfl⟩; rw [hc])
    refine bodyPost_ret (v := .agg #[.int .i64 u.op, .int .i64 u.w, .int .i64 u.k, .int .i64 u.a, .int .i64 u.b, .int .i64 u.c]) ?_ rfl ⟨rfl, ?_⟩
    · have h9 := HV.out
      rw [HK.out] at h9
      simp at h9
      subst h9
      simp [results, Try.results32, go_sem]
    · exact ((Below.refl _ _).alloc (Nat.le_refl _) _).alloc (by simp) _
  · have HK : Hid (cnt op = _) := hc
    obtain ⟨ja, rfl, hja, pa⟩ := HA.out (by omega)
    obtain ⟨jb, rfl, hjb, pb⟩ := HB.out (by omega)
    have hz1 : (ja : Int) < (len : Int) := by omega
    have hz2 : (jb : Int) < (len : Int) := by omega
    have hn0 : gp < w.heap.size := lt_of_cell (p := ⟨gp, ja, none⟩) pa
    have hn1 : gp < w.heap.size + 1 := by omega
    clear HA HB HD
    go_enter Try.func32, Try.ntmps32
    go_wp2_with (go_at_call 49; refine (iCount _ _).mono ?_; rintro e w' ⟨rfl, rfl⟩; rw [hc])
    refine bodyPost_ret (v := .agg #[.int .i64 u.op, .int .i64 u.w, .int .i64 u.k, .int .i64 u.a, .int .i64 u.b, .int .i64 u.c]) ?_ rfl ⟨rfl, ?_⟩
    · have h9 := HV.out
      rw [HK.out] at h9
      simp at h9
      subst h9
      simp [results, Try.results32, go_sem]
    · exact ((Below.refl _ _).alloc (Nat.le_refl _) _).alloc (by simp) _
  · have HK : Hid (cnt op = _) := hc
    obtain ⟨ja, rfl, hja, pa⟩ := HA.out (by omega)
    obtain ⟨jb, rfl, hjb, pb⟩ := HB.out (by omega)
    obtain ⟨jc, rfl, hjc, pc⟩ := HD.out (by omega)
    have hz1 : (ja : Int) < (len : Int) := by omega
    have hz2 : (jb : Int) < (len : Int) := by omega
    have hz3 : (jc : Int) < (len : Int) := by omega
    have hn0 : gp < w.heap.size := lt_of_cell (p := ⟨gp, ja, none⟩) pa
    have hn1 : gp < w.heap.size + 1 := by omega
    clear HA HB HD
    go_enter Try.func32, Try.ntmps32
    go_wp2_with (go_at_call 49; refine (iCount _ _).mono ?_; rintro e w' ⟨rfl, rfl⟩; rw [hc])
    refine bodyPost_ret (v := .agg #[.int .i64 u.op, .int .i64 u.w, .int .i64 u.k, .int .i64 u.a, .int .i64 u.b, .int .i64 u.c]) ?_ rfl ⟨rfl, ?_⟩
    · have h9 := HV.out
      rw [HK.out] at h9
      simp at h9
      subst h9
      simp [results, Try.results32, go_sem]
    · exact ((Below.refl _ _).alloc (Nat.le_refl _) _).alloc (by simp) _

end Go.Proofs.Ytlicobjkjikjoaa.Pg10
