/- What the laws of chapter 12 say, plain. -/
import Derived.Test.YtficonkpbohpeaaDoorJn7
import Derived.Test.YtficonkpbohpeaaDoorJn2
import Derived.Test.YtficonkpbohpeaaDoorJm0
namespace Go.Proofs.YtficonkpbohpeaaDoor.Lj0
open Go.RowKit
open Tx0 Jn0 Jn2 Jn6 Jm0
open Ss0 (bs bs_size bs_app)
open Ss1 (tl tl_bs bs_tl tl_length tl_ext tl_app)
open Jn1 (trn)
set_option linter.unusedVariables false

theorem small_len (J : ByteArray) : (rcs (tl J)).length ≤ J.size ∧ endN (tl J) ≤ J.size := by
  have h1 := cat_len (rcs (tl J)); have h3 := end_le (tl J); rw [tl_length] at h3; unfold endN at *; omega
/-- A record behind a tidy journal. -/
structure Mo (J S T K : ByteArray) (L : List (List UInt8)) : Prop where
  app : apB T S = true ∧ apd T S = K
  rcs2 : rcs (tl K) = L ++ [tl S]
  end2 : endN (tl K) = K.size
  last : bs (lst (L ++ [tl S])) = S
  size : T.size ≤ J.size ∧ K.size ≤ J.size + S.size + 8 ∧ (rcd S).size ≤ S.size + 8
  sum : T ++ rcd S = K
  cut : J.extract 0 (endN (tl J)) = T
theorem more {J S : ByteArray} (hJ : J.size ≤ 1000) (hS : S.size ≤ 1000) : Mo J S (bs (cat (rcs (tl J)))) (bs (cat (rcs (tl J))) ++ rcd S) (rcs (tl J)) := by
  obtain ⟨hsm, r, hr, _⟩ := rcs_is (tl J)
  have h6 := dec6 (n := S.size) (by omega)
  rw [bs_size] at h6
  have hrc : rcd S = bs (recT (tl S)) := by unfold rcd; rw [if_pos (by omega)]
  have hrl : (recT (tl S)).length ≤ S.size + 8 := by rw [recT_len, tl_length]; omega
  have hTl : (bs (cat (rcs (tl J)))).size ≤ J.size := by rw [bs_size]; exact (small_len J).2
  have hK : tl (bs (cat (rcs (tl J))) ++ rcd S) = cat (rcs (tl J) ++ [tl S]) := by rw [hrc, tl_app, tl_bs, tl_bs, cat_snoc]
  have hsm2 : Small (rcs (tl J) ++ [tl S]) := by
    intro t ht
    rcases List.mem_append.1 ht with e | e
    · exact hsm t e
    · have : t = tl S := by simpa using e
      rw [this, tl_length]; omega
  have hr2 : rcs (tl (bs (cat (rcs (tl J))) ++ rcd S)) = rcs (tl J) ++ [tl S] := by rw [hK]; exact rcs_cat hsm2
  refine ⟨?_, hr2, ?_, ?_, ⟨hTl, ?_, ?_⟩, rfl, ?_⟩
  · have := ap_yes (J := bs (cat (rcs (tl J)))) (S := S) (by omega) (by omega)
    exact ⟨this.1, by rw [this.2, hrc]⟩
  · unfold endN
    rw [hr2, ← hK, tl_length]
  · unfold lst
    simp [bs_tl]
  · rw [ByteArray.size_append, hrc, bs_size (recT (tl S))]; omega
  · rw [hrc, bs_size]; omega
  · rw [← bs_tl (J.extract 0 (endN (tl J))), tl_ext, List.drop_zero, take_end]
theorem fl_app {L M : List (List UInt8)} {j : Nat} (h : j < L.length) : fl (L ++ M) j = fl L j := by
  unfold fl
  rw [List.getD_eq_getElem?_getD, List.getD_eq_getElem?_getD, List.getElem?_append_left h]

/-- Records of a beginning. -/
theorem rcs_take {L : List (List UInt8)} (hS : Small L) (m : Nat) : ∃ k, k ≤ L.length ∧ rcs ((cat L).take m) = L.take k ∧ (k = L.length ↔ ((cat L).length ≤ m ∨ L.length = 0)) := by
  induction L generalizing m with
  | nil => exact ⟨0, Nat.le_refl _, by rw [cat_nil]; simp [rcs, rcsF], by simp⟩
  | cons s L ih =>
    have hsL : Small L := fun t ht => hS t (by simp [ht])
    have hs := hS s (by simp)
    by_cases h : (recT s).length ≤ m
    · obtain ⟨k, h1, h2, h3⟩ := ih hsL (m - (recT s).length)
      have e : (cat (s :: L)).take m = recT s ++ (cat L).take (m - (recT s).length) := by
        rw [cat_cons, List.take_append, List.take_of_length_le h]
      refine ⟨k + 1, by simp; exact h1, ?_, ?_⟩
      · obtain ⟨g1, r, g2, g3⟩ := rcs_is ((cat L).take (m - (recT s).length))
        rw [e]
        conv => lhs; rw [g2]
        rw [← List.append_assoc, ← cat_cons, rcs_eq (fun t ht => by
          rcases List.mem_cons.1 ht with e | e
          · rw [e]; exact hs
          · exact g1 t e) g3, h2, List.take_succ_cons]
      · rw [cat_cons, List.length_append, List.length_cons]
        constructor
        · intro e
          rcases h3.1 (by omega) with e2 | e2
          · exact .inl (by omega)
          · refine .inl ?_
            have : L = [] := List.eq_nil_of_length_eq_zero e2
            subst this
            rw [cat_nil]; simpa using h
        · intro e
          rcases e with e | e
          · have := h3.2 (.inl (by omega)); omega
          · omega
    · refine ⟨0, Nat.zero_le _, ?_, ?_⟩
      · have hn : recN ((cat (s :: L)).take m) = none := by
          cases hc : recN ((cat (s :: L)).take m) with
          | none => rfl
          | some x =>
            obtain ⟨t, k⟩ := x
            obtain ⟨h1, h2, h3⟩ := recN_of hc
            have e1 : cat (s :: L) = recT t ++ (((cat (s :: L)).take m).drop k ++ (cat (s :: L)).drop m) := by
              rw [← List.append_assoc, ← h3, List.take_append_drop]
            have e2 := recN_rec (s := t) h1 (((cat (s :: L)).take m).drop k ++ (cat (s :: L)).drop m)
            rw [← e1, cat_cons, recN_rec hs] at e2
            have e3 : (recT s).length = (recT t).length := by simpa using congrArg (fun o => o.map Prod.snd) e2
            have e4 := congrArg List.length h3
            rw [List.length_append, List.length_take] at e4
            omega
        have := rcs_eq (L := []) (fun t ht => by cases ht) hn
        rw [cat_nil, List.nil_append] at this
        rw [this, List.take_zero]
      · rw [cat_cons, List.length_append, List.length_cons]
        omega
end Go.Proofs.YtficonkpbohpeaaDoor.Lj0
