/- The lines taken, all in one; what holds of a machine at reading. -/
import Derived.Test.YtmjmnfegaoegjaaGreatDoorZl8
namespace Go.Proofs.YtmjmnfegaoegjaaGreatDoor.Zl9
open Go.RowKit
open Nd0 (Kept At lt_of_cell)
open Mm0 (Mc Mb Mr Mok mval)
open Ss0 (bs bs_size)
open Ss1 (tl tl_bs bs_tl tl_length)
open Zk0 (cutF cutS cutF_le cutS_le)
open Zt0 (TabZ iCut)
open Zs3 (LV lv0 lv1 lv2 lv3 lv4 lv5 lv6 lv7)
open Zl0 Zl1 Zl8
set_option linter.unusedVariables false

structure St (i : Nat) (m : Mc) : Prop where
  memo : i < 7 → m.memo = []
  vals : i ≤ 3 → m.vals = []
  len : m.memo.length ≤ i
  S : m.S.size ≤ 400000
  K : ∀ x ∈ m.memo, x.k.size ≤ 400000
theorem St.zero : St 0 mc0 := ⟨fun _ => rfl, fun _ => rfl, Nat.le_refl _, Nat.zero_le _, fun x hx => by cases hx⟩
theorem St.next {i : Nat} {m m' : Mc} {t : List UInt8} (h : St i m) (ht : t.length ≤ 400000) (e : tkL i m t = some m') : St (i + 1) m' := by
  unfold tkL at e
  split at e
  rotate_left
  · cases e
  have hc : (cutS 32 t).length ≤ 400000 := by have := cutS_le 32 t; omega
  generalize cutS 32 t = b at e hc
  match i, e with
  | 0, e =>
    simp only [rd] at e
    split at e <;> cases e
    exact ⟨fun _ => h.memo (by omega), fun _ => h.vals (by omega), by have := h.len; simp only; omega, h.S, h.K⟩
  | 1, e =>
    simp only [rd] at e
    split at e <;> cases e
    exact ⟨fun _ => h.memo (by omega), fun _ => h.vals (by omega), by have := h.len; simp only; omega, by simp only [bs_size]; have := cutS_le 58 b; omega, h.K⟩
  | 2, e =>
    simp only [rd] at e
    split at e <;> cases e
    exact ⟨fun _ => h.memo (by omega), fun _ => h.vals (by omega), by have := h.len; simp only; omega, h.S, h.K⟩
  | 3, e =>
    simp only [rd] at e
    split at e <;> cases e
    exact ⟨fun _ => h.memo (by omega), fun z => by omega, by have := h.len; simp only; omega, h.S, h.K⟩
  | 4, e =>
    simp only [rd] at e
    split at e <;> cases e
    exact ⟨fun _ => h.memo (by omega), fun z => by omega, by have := h.len; simp only; omega, h.S, h.K⟩
  | 5, e =>
    simp only [rd] at e
    split at e <;> cases e
    exact ⟨fun _ => h.memo (by omega), fun z => by omega, by have := h.len; simp only; omega, h.S, h.K⟩
  | 6, e =>
    simp only [rd] at e
    split at e <;> cases e
    exact ⟨fun z => by omega, fun z => by omega, by have := h.len; simp only; omega, h.S, h.K⟩
  | k + 7, e =>
    simp only [rd] at e
    split at e <;> cases e
    refine ⟨fun z => by omega, fun z => by omega, by have := h.len; simp only [List.length_append, List.length_singleton]; omega, h.S, fun x hx => ?_⟩
    rcases List.mem_append.1 hx with hx | hx
    · exact h.K x hx
    · obtain rfl := List.mem_singleton.1 hx
      simp only [bs_size]
      have := cutF_le 32 b
      omega
theorem iTake (W : World) (q : Nat) (m : Mc) (ra va ma : Option Addr) (rc vc mc u1 u2 : Nat) (h : Ld W q m ra va ma rc vc mc u1 u2) (t : List UInt8) (ht : t.length ≤ 400000) (hT : TabZ W) (i : Nat) (hi : i ≤ 400000) (hS : St i m) (v : Value) (hv : LV W v i) :
    Calls Tryz.prog 97 #[v, .pointer (some ⟨q, 0, none⟩), .string (bs t)] W (TkO W q ma (tkL i m t)) := by
  match i, hv with
  | 0, hv => obtain rfl := hv; exact tk0 W q m ra va ma rc vc mc u1 u2 h t ht hT (hS.vals (by omega)) (hS.memo (by omega))
  | 1, hv => obtain rfl := hv; exact tk1 W q m ra va ma rc vc mc u1 u2 h t ht hT
  | 2, hv => obtain rfl := hv; exact tk2 W q m ra va ma rc vc mc u1 u2 h t ht hT
  | 3, hv => obtain rfl := hv; exact tk3 W q m ra va ma rc vc mc u1 u2 h t ht hT (hS.memo (by omega))
  | 4, hv => obtain rfl := hv; exact tk4 W q m ra va ma rc vc mc u1 u2 h t ht hT
  | 5, hv => obtain rfl := hv; exact tk5 W q m ra va ma rc vc mc u1 u2 h t ht hT
  | 6, hv => obtain rfl := hv; exact tk6 W q m ra va ma rc vc mc u1 u2 h t ht hT
  | k + 7, hv =>
    obtain ⟨bx, rfl, _⟩ := hv
    exact tk7 W q m ra va ma rc vc mc u1 u2 h t ht hT k (by have := hS.len; omega) bx
end Go.Proofs.YtmjmnfegaoegjaaGreatDoor.Zl9
