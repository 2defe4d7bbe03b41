/- Small texts of mine, one behind the other. -/
import Derived.Test.YtebejleeadofcaaRows
import Derived.WalkKit
import Derived.WalkSpells
import Derived.WalkLawsBesides
import Derived.Deep.QuietTactic
import Derived.BigQuiet
import Derived.Test.YtebejleeadofcaaFr3
import Derived.Test.YtebejleeadofcaaFr2
import Derived.Test.YtebejleeadofcaaPkXF2
/- How the quantifiers of a sentence are told, place by place; there are at most eight. -/
namespace Go.Proofs.Ytebejleeadofcaa.Fr5
open Nd0 Qa0 Pl1 Tm0 Tm1 Tm5 Tm6 Tm8 Tm10 Tr0 Vl1 Vl2 Fr0 Fr1 Fr2 Fr3
set_option linter.unusedVariables false

theorem sc_nodup : ∀ (t : Tr) (S : List Int), Sc S t → (bv t).Nodup ∧ ∀ v ∈ bv t, v ∉ S := by
  intro t
  induction t with
  | leaf op w k => intro S h; exact ⟨List.nodup_nil, fun v hv => by cases hv⟩
  | one op w k b x ih =>
    intro S h
    simp only [Sc] at h
    by_cases h2 : op = 2
    · rw [if_pos h2] at h
      have e : bv (.one op w k b x) = bv x := by
        unfold bv
        simp only [wk]
        rw [if_pos h2]
        exact bv_turn x (!false)
      rw [e]
      exact ih S h
    · rw [if_neg h2] at h
      cases hq : quant op with
      | true =>
        rw [hq, if_pos rfl] at h
        rw [bv_quant hq]
        obtain ⟨h3, h4⟩ := ih (k :: S) h.2
        refine ⟨List.nodup_cons.2 ⟨fun hk => h4 k hk (by simp), h3⟩, fun v hv => ?_⟩
        rcases List.mem_cons.1 hv with rfl | hv
        · exact h.1
        · exact fun hs => h4 v hv (by simp [hs])
      | false =>
        have e : bv (.one op w k b x) = [] := by
          unfold bv
          simp only [wk]
          rw [if_neg h2, hq]
          rfl
        rw [e]
        exact ⟨List.nodup_nil, fun v hv => by cases hv⟩
  | two op w x y ihx ihy =>
    intro S h
    simp only [Sc] at h
    obtain ⟨hx, hy, hd⟩ := h
    by_cases h3 : op = 3 ∨ op = 4
    · rw [if_pos h3] at hd
      have e : bv (.two op w x y) = bv x ++ bv y := by
        unfold bv
        simp only [wk]
        rw [if_pos h3, List.map_append]
      rw [e]
      obtain ⟨x1, x2⟩ := ihx S hx
      obtain ⟨y1, y2⟩ := ihy S hy
      refine ⟨List.nodup_append.2 ⟨x1, y1, fun a ha b hb e => hd a ha (e ▸ hb)⟩, fun v hv => ?_⟩
      rcases List.mem_append.1 hv with hv | hv
      · exact x2 v hv
      · exact y2 v hv
    · have e : bv (.two op w x y) = [] := by
        unfold bv
        simp only [wk]
        rw [if_neg h3]
        rfl
      rw [e]
      exact ⟨List.nodup_nil, fun v hv => by cases hv⟩
  | three op w x y z ihx ihy ihz =>
    intro S h
    exact ⟨List.nodup_nil, fun v hv => by cases hv⟩
theorem nodup_small (m : Nat) : ∀ l : List Nat, l.Nodup → (∀ v ∈ l, v < m) → l.length ≤ m := by
  induction m with
  | zero =>
    intro l _ h
    cases l with
    | nil => exact Nat.le_refl _
    | cons x l => exact absurd (h x (by simp)) (by omega)
  | succ m ih =>
    intro l hn h
    by_cases hm : m ∈ l
    · have h1 := ih (l.erase m) (hn.erase m) (fun v hv => by
        have h2 := h v (List.mem_of_mem_erase hv)
        have h3 : v ≠ m := fun e => by rw [e] at hv; exact (List.Nodup.not_mem_erase hn) hv
        omega)
      rw [List.length_erase_of_mem hm] at h1
      omega
    · have := ih l hn (fun v hv => by
        have h2 := h v hv
        have h3 : v ≠ m := fun e => hm (e ▸ hv)
        omega)
      omega
theorem wk_len {l : List Nd} (h : sentB l = true) (u : Bool) : (wk (root l) u).length ≤ 8 := by
  obtain ⟨ws, _, hR, _, hty, hsc⟩ := sent_tree h
  have h1 := (sc_nodup _ _ hsc).1
  have h2 : ∀ v ∈ bv (root l), 0 ≤ v ∧ v ≤ 7 := fun v hv => by
    obtain ⟨x, hx, rfl⟩ := List.mem_map.1 hv
    have := wk_ty (root l) false hR hty x hx
    exact ⟨this.1, this.2.1⟩
  have h3 : ((bv (root l)).map Int.toNat).Nodup := by
    unfold List.Nodup
    rw [List.pairwise_map]
    refine List.Pairwise.imp_of_mem (fun {x y} hx hy hne e => hne ?_) h1
    have := h2 x hx
    have := h2 y hy
    omega
  have h4 := nodup_small 8 _ h3 (fun v hv => by
    obtain ⟨x, hx, rfl⟩ := List.mem_map.1 hv
    have := h2 x hx
    omega)
  rw [List.length_map] at h4
  rw [← bv_turn (root l) u, List.length_map] at h4
  exact h4
/-- What is told at a place of a sentence. -/
theorem wk_none {l : List Nd} (hT : termOk l = true) {i : Nat} (hi : i < l.length) (h : flag (holdTo l l.length) i = false) (u : Bool) : wk (tr l i) u = [] := qf_wk _ u (hold_qf (down_of hT) i hi h)
theorem hold_outer {l : List Nd} (hS : sentB l = true) {i : Nat} (hi : i < l.length) (hf : flag (reachL l) i = true) (h : flag (holdTo l l.length) i = true) : (nth l i).op = 2 ∨ (nth l i).op = 3 ∨ (nth l i).op = 4 ∨ quant (nth l i).op = true := by
  cases ho : outer (nth l i).op with
  | false => rw [sent_outer hi hf h ho] at hS; cases hS
  | true =>
    unfold outer at ho
    simp only [Bool.or_eq_true, beq_iff_eq] at ho
    rcases ho with ((h1 | h1) | h1) | h1 <;> simp [h1]
theorem wk_not {l : List Nd} (hT : termOk l = true) {i : Nat} (hi : i < l.length) (h : (nth l i).op = 2) (u : Bool) : wk (tr l i) u = wk (tr l (nth l i).a.toNat) (!u) := by
  rw [tr_at (down_of hT) hi, mk_one (by omega)]
  simp only [wk]
  rw [if_pos h]
theorem wk_q {l : List Nd} (hT : termOk l = true) {i : Nat} (hi : i < l.length) (h : quant (nth l i).op = true) (u : Bool) : wk (tr l i) u = ⟨((nth l i).op == 19) != u, (nth l i).k, (nth l i).b⟩ :: wk (tr l (nth l i).a.toNat) u := by
  have h2 : (nth l i).op = 19 ∨ (nth l i).op = 20 := by simpa [quant] using h
  rw [tr_at (down_of hT) hi, mk_one (by omega)]
  simp only [wk]
  rw [if_neg (by omega), h, if_pos rfl]
theorem wk_two {l : List Nd} (hT : termOk l = true) {i : Nat} (hi : i < l.length) (h : (nth l i).op = 3 ∨ (nth l i).op = 4) (u : Bool) : wk (tr l i) u = wk (tr l (nth l i).a.toNat) u ++ wk (tr l (nth l i).b.toNat) u := by
  rw [tr_at (down_of hT) hi, mk_two (by omega)]
  simp only [wk]
  rw [if_pos h]

end Go.Proofs.Ytebejleeadofcaa.Fr5

/- Walks of the exact laws' helpers on single nodes. -/
namespace Go.Proofs.Ytebejleeadofcaa.Nd1
open Go.RowKit
set_option linter.unusedVariables false

theorem ret_bool {a b : Bool} (h : a = b) : Ending.returned (.bool a) = .returned (.bool b) := by rw [h]

set_option maxHeartbeats 1000000 in
theorem toNode (o m k a b c : Int) (w : World) :
    Calls Try.prog 20 #[.agg #[.int .i64 o, .int .i64 m, .int .i64 k, .int .i64 a, .int .i64 b, .int .i64 c]] w fun e w' => e = .returned (.agg #[.int .i64 o, .int .i64 m, .int .i64 k, .int .i64 a, .int .i64 b, .int .i64 c]) ∧ Below w.heap.size w w' := by
  go_enter Try.func20, Try.ntmps20
  go_wp2
  refine bodyPost_ret (v := .agg #[.int .i64 o, .int .i64 m, .int .i64 k, .int .i64 a, .int .i64 b, .int .i64 c]) (by simp [results, Try.results20, go_sem]) rfl ⟨rfl, ?_⟩
  exact (((Below.refl _ _).alloc (Nat.le_refl _) _).alloc (by simp) _).alloc (by simp; omega) _

set_option maxHeartbeats 1000000 in
theorem eqNode (o m k a b c o' m' k' a' b' c' : Int) (r : Bool) (hr : r = decide (o = o' ∧ m = m' ∧ k = k' ∧ a = a' ∧ b = b' ∧ c = c')) (w : World) :
    Calls Try.prog 26 #[.agg #[.int .i64 o, .int .i64 m, .int .i64 k, .int .i64 a, .int .i64 b, .int .i64 c], .agg #[.int .i64 o', .int .i64 m', .int .i64 k', .int .i64 a', .int .i64 b', .int .i64 c']] w fun e w' => e = .returned (.bool r) ∧ Below w.heap.size w w' := by
  have HR : Hid (r = decide (o = o' ∧ m = m' ∧ k = k' ∧ a = a' ∧ b = b' ∧ c = c')) := hr
  clear hr
  go_enter Try.func26, Try.ntmps26
  go_wp2
  all_goals
    go_ret
    refine ⟨ret_bool ?_, ((Below.refl _ _).alloc (Nat.le_refl _) _).alloc (by simp) _⟩
    rw [HR.out]
    simp_all

end Go.Proofs.Ytebejleeadofcaa.Nd1

/- Walks of the model's terms: parts, and whether a node is right. -/
namespace Go.Proofs.Ytebejleeadofcaa.Sp2
open Go.RowKit
open Nd0 Nd1 Tm0
set_option linter.unusedVariables false

set_option maxHeartbeats 400000 in
theorem sIn (x a b : Int) (w : World) :
    Calls Try.prog 32 #[.int .i64 x, .int .i64 a, .int .i64 b] w fun e w' => e = .returned (.bool (decide (a ≤ x ∧ x ≤ b))) ∧ w' = w := by
  by_cases h1 : a ≤ x <;> by_cases h2 : x ≤ b
  all_goals
    go_enter Try.func32, Try.ntmps32
    go_wp2
    go_ret
    exact ⟨ret_bool (by simp <;> omega), rfl⟩

set_option maxHeartbeats 1000000 in
theorem sParts (n : Nd) (w : World) :
    Calls Try.prog 17 #[.agg #[.int .i64 n.op, .int .i64 n.w, .int .i64 n.k, .int .i64 n.a, .int .i64 n.b, .int .i64 n.c]] w fun e w' => (∃ a c, e = .returned (.slice a (parts n).length c) ∧ WInts w' w.heap.size a (parts n)) ∧ Below w.heap.size w w' := by
  by_cases h1 : n.op = 2 ∨ n.op = 17 ∨ n.op = 19 ∨ n.op = 20
  · have HP : Hid (parts n = [n.a]) := parts_one h1
    rcases h1 with h | h | h | h
    all_goals
      go_enter Try.func17, Try.ntmps17
      go_wp2_with (go_at_call 32; refine (sIn _ _ _ _).mono ?_; rintro e w' ⟨rfl, rfl⟩)
      go_ret
      rw [HP.out]
      exact ⟨⟨_, _, rfl, wints_lit _ _ _ [n.a] _ (by simp) (by simp) (by simp [maxLen])⟩, ((Below.refl _ _).alloc (Nat.le_refl _) _).alloc (by simp) _⟩
  by_cases h2 : 3 ≤ n.op ∧ n.op ≤ 16
  · have HP : Hid (parts n = [n.a, n.b]) := parts_two h2
    have hd : decide (3 ≤ n.op ∧ n.op ≤ 16) = true := by simpa using h2
    have t1 : (n.op == 2) = false := by simp; omega
    have t2 : (n.op == 17) = false := by simp; omega
    have t3 : (n.op == 19) = false := by simp; omega
    have t4 : (n.op == 20) = false := by simp; omega
    clear h1 h2
    all_goals
      go_enter Try.func17, Try.ntmps17
      go_wp2_with (go_at_call 32; refine (sIn _ _ _ _).mono ?_; rintro e w' ⟨rfl, rfl⟩)
      go_ret
      rw [HP.out]
      exact ⟨⟨_, _, rfl, wints_lit _ _ _ [n.a, n.b] _ (by simp) (by simp) (by simp [maxLen])⟩, ((Below.refl _ _).alloc (Nat.le_refl _) _).alloc (by simp) _⟩
  have hd : decide (3 ≤ n.op ∧ n.op ≤ 16) = false := by simpa using h2
  by_cases h3 : n.op = 18
  · have HP : Hid (parts n = [n.a, n.b, n.c]) := parts_three h3
    all_goals
      go_enter Try.func17, Try.ntmps17
      go_wp2_with (go_at_call 32; refine (sIn _ _ _ _).mono ?_; rintro e w' ⟨rfl, rfl⟩)
      go_ret
      rw [HP.out]
      exact ⟨⟨_, _, rfl, wints_lit _ _ _ [n.a, n.b, n.c] _ (by simp) (by simp) (by simp [maxLen])⟩, ((Below.refl _ _).alloc (Nat.le_refl _) _).alloc (by simp) _⟩
  · have HP : Hid (parts n = []) := parts_none h1 h2 h3
    have t1 : (n.op == 2) = false := by simp; omega
    have t2 : (n.op == 17) = false := by simp; omega
    have t3 : (n.op == 19) = false := by simp; omega
    have t4 : (n.op == 20) = false := by simp; omega
    have t5 : (n.op == 18) = false := by simp; omega
    clear h1 h2 h3
    all_goals
      go_enter Try.func17, Try.ntmps17
      go_wp2_with (go_at_call 32; refine (sIn _ _ _ _).mono ?_; rintro e w' ⟨rfl, rfl⟩)
      go_ret
      rw [HP.out]
      exact ⟨⟨_, _, rfl, wints_lit _ _ _ [] _ (by simp) (by simp) (by simp [maxLen])⟩, ((Below.refl _ _).alloc (Nat.le_refl _) _).alloc (by simp) _⟩

end Go.Proofs.Ytebejleeadofcaa.Sp2

/- Walks of the model's powers of two and of its test of words. -/
namespace Go.Proofs.Ytebejleeadofcaa.Ws1
open Go.RowKit
open Pl1
set_option linter.unusedVariables false

theorem ret_int {k : IntKind} {a b : Int} (h : a = b) : Ending.returned (.int k a) = .returned (.int k b) := by rw [h]
theorem ret_bool {a b : Bool} (h : a = b) : Ending.returned (.bool a) = .returned (.bool b) := by rw [h]

set_option maxHeartbeats 400000 in
theorem spow (m : Int) (w : World) (h0 : 0 ≤ m) (h1 : m ≤ 8) :
    Calls Try.prog 57 #[.int .i64 m] w fun e w' => e = .returned (.int .i64 (p2 m.toNat)) ∧ w' = w := by
  obtain ⟨n, rfl⟩ := Int.eq_ofNat_of_zero_le h0
  rw [Int.toNat_natCast]
  go_enter Try.func57, Try.ntmps57
  go_wp2
  go_loop [3, 4] (fun x i => ∃ k : Nat, k ≤ n ∧ i = .int .i64 k ∧ x = .int .i64 (p2 k)) (fun _ i => n - (intOf i).toNat)
  case atStart => exact ⟨0, Nat.zero_le _, rfl, rfl⟩
  case round =>
    obtain ⟨k, hk, rfl, rfl⟩ := hrel
    have hp := p2_pos k
    have hl := p2_le k (by omega)
    by_cases hlt : k < n
    · go_wp2
      go_round
      case rel => exact ⟨k + 1, by omega, by go_num, by rw [p2_succ]⟩
      case measure => simp [intOf]; omega
    · go_wp2
      go_ret
      have : k = n := by omega
      subst this
      exact ⟨rfl, rfl⟩

set_option maxHeartbeats 400000 in
theorem sIn (x a b : Int) (w : World) :
    Calls Try.prog 32 #[.int .i64 x, .int .i64 a, .int .i64 b] w fun e w' => e = .returned (.bool (decide (a ≤ x ∧ x ≤ b))) ∧ w' = w := by
  by_cases h1 : a ≤ x <;> by_cases h2 : x ≤ b
  all_goals
    go_enter Try.func32, Try.ntmps32
    go_wp2
    go_ret
    exact ⟨ret_bool (by simp <;> omega), rfl⟩

set_option maxHeartbeats 400000 in
theorem sWordOk (m a : Int) (w : World) :
    Calls Try.prog 52 #[.int .i64 m, .int .i64 a] w fun e w' => e = .returned (.bool (wok m a)) ∧ w' = w := by
  by_cases h : 1 ≤ m ∧ m ≤ 8
  · have hp := p2_pos m.toNat
    have hl := p2_le m.toNat (by omega)
    have hd : decide (1 ≤ m ∧ m ≤ 8) = true := by simpa using h
    go_enter Try.func52, Try.ntmps52
    go_wp2_with (first | (go_at_call 32; refine (sIn _ _ _ _).mono ?_; rintro e w' ⟨rfl, rfl⟩) | (go_at_call 57; refine (spow m _ (by omega) (by omega)).mono ?_; rintro e w' ⟨rfl, rfl⟩))
    go_ret
    exact ⟨ret_bool (by rw [Bool.eq_iff_iff]; simp [wok]; omega), rfl⟩
  · have hd : decide (1 ≤ m ∧ m ≤ 8) = false := by simpa using h
    go_enter Try.func52, Try.ntmps52
    go_wp2_with (go_at_call 32; refine (sIn _ _ _ _).mono ?_; rintro e w' ⟨rfl, rfl⟩)
    go_ret
    exact ⟨ret_bool (by unfold wok; symm; rw [decide_eq_false_iff_not]; omega), rfl⟩

end Go.Proofs.Ytebejleeadofcaa.Ws1
