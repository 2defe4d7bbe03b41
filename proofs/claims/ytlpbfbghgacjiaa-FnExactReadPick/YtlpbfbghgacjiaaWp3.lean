/- Reading a pick, as plain data. -/
import Derived.Test.YtlpbfbghgacjiaaWp1
namespace Go.Proofs.Ytlpbfbghgacjiaa.Wp3
open Go.RowKit
open Ta2 (bitB)
open Vo0 (allB valB)
open Ss0 (bs bs_size bs_app bs_inj)
open Wp1
set_option linter.unusedVariables false

def un (c : UInt8) : Int := (c.toNat : Int) - 48
/-- t is the text of the pick (l, v). -/
def okT (t : List UInt8) (l : List Int) (v : Int) : Prop := pkB l v = true ∧ t = vt l ++ [32, dgt v]
theorem un_dgt {b : Int} (h : bitB b = true) : un (dgt b) = b := by
  rcases bit_two h with rfl | rfl <;> rfl
theorem dgt_un {c : UInt8} (h : bitB (un c) = true) : dgt (un c) = c := by
  have hb := bit_two h
  unfold un at hb ⊢
  apply UInt8.toNat_inj.1
  rcases hb with e | e
  · rw [e]; show 48 = _; omega
  · rw [e]; show 49 = _; omega
theorem dgt_two (b : Int) : dgt b = 48 ∨ dgt b = 49 := by unfold dgt; split <;> simp
theorem val_mem {l : List Int} (h : valB l 12 = true) : (∀ b ∈ l, bitB b = true) ∧ l.length ≤ 12 := by
  unfold valB allB at h
  simp at h
  exact ⟨h.1, by omega⟩
theorem map_back {l : List Int} (h : ∀ b ∈ l, bitB b = true) : (l.map dgt).map un = l := by
  rw [List.map_map]
  conv => rhs; rw [← List.map_id l]
  exact List.map_congr_left fun b hb => un_dgt (h b hb)
theorem map_fore {x : List UInt8} (h : ∀ b ∈ x.map un, bitB b = true) : (x.map un).map dgt = x := by
  rw [List.map_map]
  conv => rhs; rw [← List.map_id x]
  exact List.map_congr_left fun c hc => dgt_un (h _ (List.mem_map_of_mem hc))
theorem vt_no (l : List Int) : ∀ c ∈ vt l, (c != 32) = true := by
  intro c hc
  unfold vt at hc
  split at hc
  · rw [List.mem_singleton.1 hc]; rfl
  · obtain ⟨b, _, rfl⟩ := List.mem_map.1 hc
    rcases dgt_two b with e | e <;> rw [e] <;> rfl
/-- Values read from a text. -/
def rvL (x : List UInt8) : List Int := if x = [45] then [] else x.map un
def rvB (x : List UInt8) : Bool := if x = [45] then true else decide (x ≠ []) && valB (x.map un) 12
theorem rv_ok {x : List UInt8} (h : rvB x = true) : x = vt (rvL x) ∧ valB (rvL x) 12 = true := by
  unfold rvB at h
  unfold rvL
  by_cases e : x = [45]
  · rw [if_pos e]
    exact ⟨e, rfl⟩
  · rw [if_neg e] at h ⊢
    obtain ⟨h1, h2⟩ := Bool.and_eq_true_iff.1 h
    have h1' : x ≠ [] := of_decide_eq_true h1
    refine ⟨?_, h2⟩
    unfold vt
    rw [if_neg (by intro c; exact h1' (List.map_eq_nil_iff.1 c)), map_fore (val_mem h2).1]
theorem vt_not {l : List Int} (h : l ≠ []) : vt l ≠ [45] := by
  unfold vt
  rw [if_neg h]
  intro e
  cases l with
  | nil => exact h rfl
  | cons b r =>
    have := (List.cons.inj e).1
    rcases dgt_two b with e | e <;> rw [e] at this <;> exact absurd this (by decide)
theorem rv_of {l : List Int} (h : valB l 12 = true) : rvL (vt l) = l ∧ rvB (vt l) = true := by
  unfold rvL rvB
  by_cases e : l = []
  · subst e
    exact ⟨rfl, rfl⟩
  · have e2 : vt l = l.map dgt := by unfold vt; exact if_neg e
    rw [if_neg (vt_not e), if_neg (vt_not e), e2, map_back (val_mem h).1]
    refine ⟨rfl, ?_⟩
    rw [h, Bool.and_true]
    exact decide_eq_true (by intro c; exact e (List.map_eq_nil_iff.1 c))
/-- The part ahead of the first blank, and what stands behind it. -/
def fstT (t : List UInt8) : List UInt8 := t.takeWhile (fun c => c != 32)
def sndT (t : List UInt8) : List UInt8 := (t.dropWhile (fun c => c != 32)).drop 1
theorem cut_split {x : List UInt8} (h : ∀ c ∈ x, (c != 32) = true) (y : List UInt8) : fstT (x ++ 32 :: y) = x ∧ sndT (x ++ 32 :: y) = y := by
  unfold fstT sndT
  induction x with
  | nil => exact ⟨by simp, by simp⟩
  | cons c r ih =>
    have hc := h c List.mem_cons_self
    obtain ⟨i1, i2⟩ := ih fun d hd => h d (List.mem_cons_of_mem _ hd)
    refine ⟨?_, ?_⟩
    · rw [List.cons_append, List.takeWhile_cons_of_pos (p := fun c => c != 32) hc, i1]
    · rw [List.cons_append, List.dropWhile_cons_of_pos (p := fun c => c != 32) hc, i2]
theorem cut_join {t : List UInt8} (h : sndT t ≠ []) : t = fstT t ++ 32 :: sndT t := by
  unfold fstT sndT at *
  induction t with
  | nil => exact absurd rfl h
  | cons c r ih =>
    by_cases hc : (c != 32) = true
    · rw [List.dropWhile_cons_of_pos (p := fun c => c != 32) hc] at h ⊢
      rw [List.takeWhile_cons_of_pos (p := fun c => c != 32) hc, List.cons_append, ← ih h]
    · have hc' : c = 32 := by simpa using hc
      rw [List.dropWhile_cons_of_neg (p := fun c => c != 32) hc, List.takeWhile_cons_of_neg (p := fun c => c != 32) hc, hc']
      rfl
/-- What the program reads. -/
def okP (t : List UInt8) : Bool := rvB (fstT t) && rvB (sndT t) && decide ((rvL (sndT t)).length = 1)
theorem one_of {l : List Int} (h : l.length = 1) : l = [l.getD 0 0] := by
  match l, h with
  | [x], _ => rfl
theorem readP_ok {t : List UInt8} (h : okP t = true) : okT t (rvL (fstT t)) ((rvL (sndT t)).getD 0 0) := by
  unfold okP at h
  obtain ⟨h12, h3⟩ := Bool.and_eq_true_iff.1 h
  obtain ⟨h1, h2⟩ := Bool.and_eq_true_iff.1 h12
  have h3' : (rvL (sndT t)).length = 1 := of_decide_eq_true h3
  obtain ⟨a1, a2⟩ := rv_ok h1
  obtain ⟨b1, b2⟩ := rv_ok h2
  have hone := one_of h3'
  have hv : bitB ((rvL (sndT t)).getD 0 0) = true := (val_mem b2).1 _ (by rw [hone]; simp)
  have hs : sndT t = [dgt ((rvL (sndT t)).getD 0 0)] := by
    conv => lhs; rw [b1, hone]
    rfl
  refine ⟨?_, ?_⟩
  · unfold pkB
    rw [a2, hv]
    rfl
  · have hj := cut_join (t := t) (by rw [hs]; simp)
    conv => lhs; rw [hj, hs]
    conv => lhs; rw [a1]
theorem okT_read {t : List UInt8} {l : List Int} {v : Int} (h : okT t l v) : fstT t = vt l ∧ sndT t = [dgt v] := by
  rw [h.2]
  exact cut_split (vt_no l) [dgt v]
theorem okT_P {t : List UInt8} {l : List Int} {v : Int} (h : okT t l v) : okP t = true ∧ rvL (fstT t) = l ∧ (rvL (sndT t)).getD 0 0 = v := by
  obtain ⟨h1, h2⟩ := okT_read h
  have hp := h.1
  unfold pkB at hp
  obtain ⟨p1, p2⟩ := Bool.and_eq_true_iff.1 hp
  obtain ⟨a1, a2⟩ := rv_of p1
  have hv1 : valB [v] 12 = true := by unfold valB allB; simp [p2]
  obtain ⟨b1, b2⟩ := rv_of hv1
  have e : vt [v] = [dgt v] := by unfold vt; simp
  rw [e] at b1 b2
  unfold okP
  rw [h1, h2, a1, a2, b1, b2]
  exact ⟨rfl, rfl, rfl⟩
/-- What the model reads. -/
def mL (t : List UInt8) : List Int := if t.getD 0 0 = 45 then [] else (t.take (t.length - 2)).map un
def mV (t : List UInt8) : Int := un (t.getD (t.length - 1) 0)
theorem okT_len {t : List UInt8} {l : List Int} {v : Int} (h : okT t l v) : 3 ≤ t.length ∧ t.length ≤ 15 := by
  have hp := h.1
  unfold pkB at hp
  have hl := (val_mem (Bool.and_eq_true_iff.1 hp).1).2
  have h1 := vt_len l
  rw [h.2, List.length_append]
  simp
  omega
theorem okT_M {t : List UInt8} {l : List Int} {v : Int} (h : okT t l v) : mL t = l ∧ mV t = v := by
  have hp := h.1
  unfold pkB at hp
  obtain ⟨p1, p2⟩ := Bool.and_eq_true_iff.1 hp
  have hb := (val_mem p1).1
  have ht := h.2
  have hlen : t.length = (vt l).length + 2 := by rw [ht, List.length_append]; rfl
  constructor
  · unfold mL
    by_cases e : l = []
    · subst e
      rw [if_pos (by rw [ht]; rfl)]
    · have e2 : vt l = l.map dgt := by unfold vt; exact if_neg e
      have h0 : t.getD 0 0 ≠ 45 := by
        cases l with
        | nil => exact absurd rfl e
        | cons b r =>
          rw [ht, e2]
          show dgt b ≠ 45
          rcases dgt_two b with e | e <;> rw [e] <;> decide
      rw [if_neg h0, hlen, Nat.add_sub_cancel, ht, List.take_left', e2, map_back hb]
      rfl
  · unfold mV
    rw [hlen, ht]
    have : (vt l ++ [32, dgt v]).getD ((vt l).length + 2 - 1) 0 = dgt v := by
      simp [List.getD]
    rw [this, un_dgt p2]
theorem pk_ok {t : List UInt8} {l : List Int} {v : Int} (ht : 1 ≤ t.length) (h : pkT l v = bs t) : okT t l v := by
  unfold pkT at h
  by_cases e : pkB l v = true
  · rw [if_pos e] at h
    have := bs_inj h
    exact ⟨e, by rw [← this, List.append_assoc]; rfl⟩
  · rw [if_neg e] at h
    have := congrArg ByteArray.size h
    rw [bs_size] at this
    have e0 : (⟨#[]⟩ : ByteArray).size = 0 := rfl
    omega
theorem ok_pk {t : List UInt8} {l : List Int} {v : Int} (h : okT t l v) : pkT l v = bs t := by
  unfold pkT
  rw [if_pos h.1, h.2, List.append_assoc]
  rfl
end Go.Proofs.Ytlpbfbghgacjiaa.Wp3
