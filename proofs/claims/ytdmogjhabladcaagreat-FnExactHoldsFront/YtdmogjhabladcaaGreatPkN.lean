/- Small texts of mine, one behind the other. -/
import Derived.Deep.Upon
import Derived.WalkSpells
import Derived.Deep.RegionWith
import Derived.Laws.MakeOwn
import Derived.Test.YtdmogjhabladcaaGreatPkA
import Derived.Test.YtdmogjhabladcaaGreatPkB
import Derived.Test.YtdmogjhabladcaaGreatPkH
/- Walks of the program's small tests of operators, of words, and of its Parts. -/
namespace Go.Proofs.YtdmogjhabladcaaGreat.Pg1
open Go.RowKit
open Nd0 Tm0 Tm5 Pl1 Ap0
open Ws1 (ret_int ret_bool)
set_option linter.unusedVariables false

/-- How many parts an operator has. -/
def cnt (op : Int) : Nat := if op = 2 ∨ op = 17 ∨ op = 19 ∨ op = 20 then 1 else if 3 ≤ op ∧ op ≤ 16 then 2 else if op = 18 then 3 else 0
theorem cnt_parts (n : Nd) : (parts n).length = cnt n.op := by
  unfold parts cnt; split
  · rfl
  · split
    · rfl
    · split <;> rfl
theorem cnt_le (op : Int) : cnt op ≤ 3 := by unfold cnt; split; omega; split; omega; split <;> omega
def numbered (op : Int) : Bool := op == 0 || op == 1 || op == 17 || quant op

set_option maxHeartbeats 400000 in
theorem iWidthOk (m : Int) (w : World) :
    Calls Tryz.prog 93 #[.int .i64 m] w fun e w' => e = .returned (.bool (decide (1 ≤ m ∧ m ≤ 8))) ∧ w' = w := by
  by_cases h1 : 1 ≤ m <;> by_cases h2 : m ≤ 8
  all_goals
    go_enter Tryz.func93, Tryz.ntmps93
    go_wp2
    go_ret
    exact ⟨ret_bool (by simp <;> omega), rfl⟩

set_option maxHeartbeats 400000 in
theorem iWordOk (m a : Int) (w : World) :
    Calls Tryz.prog 54 #[.int .i64 m, .int .i64 a] w fun e w' => e = .returned (.bool (wok m a)) ∧ w' = w := by
  by_cases h : 1 ≤ m ∧ m ≤ 8
  · have hd : decide (1 ≤ m ∧ m ≤ 8) = true := by simpa using h
    by_cases ha : 0 ≤ a
    all_goals
      go_enter Tryz.func54, Tryz.ntmps54
      go_wp2_with (go_at_call 93; refine (iWidthOk _ _).mono ?_; rintro e w' ⟨rfl, rfl⟩)
      go_ret
      exact ⟨ret_bool (by rw [Bool.eq_iff_iff]; try rw [wrap_p2 _ (by omega)]
                          simp [wok]; omega), rfl⟩
  · have hd : decide (1 ≤ m ∧ m ≤ 8) = false := by simpa using h
    go_enter Tryz.func54, Tryz.ntmps54
    go_wp2_with (go_at_call 93; refine (iWidthOk _ _).mono ?_; rintro e w' ⟨rfl, rfl⟩)
    go_ret
    exact ⟨ret_bool (by unfold wok; symm; rw [decide_eq_false_iff_not]; omega), rfl⟩

set_option maxHeartbeats 400000 in
theorem iVarOk (m : Int) (w : World) :
    Calls Tryz.prog 106 #[.int .i64 m] w fun e w' => e = .returned (.bool (decide (0 ≤ m ∧ m ≤ 7))) ∧ w' = w := by
  by_cases h1 : 0 ≤ m <;> by_cases h2 : m < 8
  all_goals
    go_enter Tryz.func106, Tryz.ntmps106
    go_wp2
    go_ret
    exact ⟨ret_bool (by simp <;> omega), rfl⟩

set_option maxHeartbeats 400000 in
theorem iQuant (op : Int) (w : World) :
    Calls Tryz.prog 53 #[.int .i64 op] w fun e w' => e = .returned (.bool (quant op)) ∧ w' = w := by
  cases h1 : (op == 19) <;> cases h2 : (op == 20)
  all_goals
    go_enter Tryz.func53, Tryz.ntmps53
    go_wp2
    go_ret
    exact ⟨ret_bool (by unfold quant; rw [h1, h2]; rfl), rfl⟩

set_option maxHeartbeats 400000 in
theorem iOuter (op : Int) (w : World) :
    Calls Tryz.prog 122 #[.int .i64 op] w fun e w' => e = .returned (.bool (outer op)) ∧ w' = w := by
  cases h1 : (op == 2) <;> cases h2 : (op == 3) <;> cases h3 : (op == 4)
  all_goals
    go_enter Tryz.func122, Tryz.ntmps122
    go_wp2_with (go_at_call 53; refine (iQuant _ _).mono ?_; rintro e w' ⟨rfl, rfl⟩)
    go_ret
    exact ⟨ret_bool (by unfold outer; rw [h1, h2, h3]; rfl), rfl⟩

set_option maxHeartbeats 400000 in
theorem iNumbered (op : Int) (w : World) :
    Calls Tryz.prog 125 #[.int .i64 op] w fun e w' => e = .returned (.bool (numbered op)) ∧ w' = w := by
  cases h1 : (op == 0) <;> cases h2 : (op == 1) <;> cases h3 : (op == 17)
  all_goals
    go_enter Tryz.func125, Tryz.ntmps125
    go_wp2_with (go_at_call 53; refine (iQuant _ _).mono ?_; rintro e w' ⟨rfl, rfl⟩)
    go_ret
    exact ⟨ret_bool (by unfold numbered; rw [h1, h2, h3]; rfl), rfl⟩

set_option maxHeartbeats 1000000 in
theorem iCount (op : Int) (w : World) :
    Calls Tryz.prog 108 #[.int .i64 op] w fun e w' => e = .returned (.int .i64 (cnt op : Int)) ∧ w' = w := by
  have HC : Hid (∀ k : Nat, cnt op = k → (k : Int) = (cnt op : Int)) := fun k h => by rw [h]
  have q1 : (op == 2) = false → (op == 17) = false → quant op = false → ¬ (op = 2 ∨ op = 17 ∨ op = 19 ∨ op = 20) := by
    intro a b c; simp [quant] at a b c; omega
  have HQ : Hid ((op == 2) = false → (op == 17) = false → quant op = false → ¬ (op = 2 ∨ op = 17 ∨ op = 19 ∨ op = 20)) := q1
  have HR : Hid ((op == 2) = true ∨ (op == 17) = true ∨ quant op = true → (op = 2 ∨ op = 17 ∨ op = 19 ∨ op = 20)) := by
    show _ → _
    rintro (a | a | a)
    · simp at a; omega
    · simp at a; omega
    · simp [quant] at a; omega
  clear q1
  cases h1 : (op == 2)
  · cases h2 : (op == 17)
    · cases h3 : quant op
      · have HN := HQ.out h1 h2 h3
        have HN' : Hid (¬ (op = 2 ∨ op = 17 ∨ op = 19 ∨ op = 20)) := HN
        clear HN
        by_cases h4 : 3 ≤ op
        · by_cases h5 : op ≤ 16
          · have HE : Hid (cnt op = 2) := by
              show cnt op = 2
              unfold cnt; rw [if_neg HN'.out, if_pos ⟨h4, h5⟩]
            go_enter Tryz.func108, Tryz.ntmps108
            go_wp2_with (go_at_call 53; refine (iQuant _ _).mono ?_; rintro e w' ⟨rfl, rfl⟩)
            go_ret
            exact ⟨ret_int (HC.out 2 HE.out), rfl⟩
          · cases h6 : (op == 18)
            · have HE : Hid (cnt op = 0) := by
                show cnt op = 0
                unfold cnt; rw [if_neg HN'.out, if_neg (by omega), if_neg (by simpa using h6)]
              go_enter Tryz.func108, Tryz.ntmps108
              go_wp2_with (go_at_call 53; refine (iQuant _ _).mono ?_; rintro e w' ⟨rfl, rfl⟩)
              go_ret
              exact ⟨ret_int (HC.out 0 HE.out), rfl⟩
            · have HE : Hid (cnt op = 3) := by
                show cnt op = 3
                unfold cnt; rw [if_neg HN'.out, if_neg (by omega), if_pos (by simpa using h6)]
              go_enter Tryz.func108, Tryz.ntmps108
              go_wp2_with (go_at_call 53; refine (iQuant _ _).mono ?_; rintro e w' ⟨rfl, rfl⟩)
              go_ret
              exact ⟨ret_int (HC.out 3 HE.out), rfl⟩
        · have h6 : (op == 18) = false := by simp; omega
          have HE : Hid (cnt op = 0) := by
            show cnt op = 0
            unfold cnt; rw [if_neg HN'.out, if_neg (by omega), if_neg (by omega)]
          go_enter Tryz.func108, Tryz.ntmps108
          go_wp2_with (go_at_call 53; refine (iQuant _ _).mono ?_; rintro e w' ⟨rfl, rfl⟩)
          go_ret
          exact ⟨ret_int (HC.out 0 HE.out), rfl⟩
      · have HE : Hid (cnt op = 1) := by
          show cnt op = 1
          unfold cnt; rw [if_pos (HR.out (.inr (.inr h3)))]
        go_enter Tryz.func108, Tryz.ntmps108
        go_wp2_with (go_at_call 53; refine (iQuant _ _).mono ?_; rintro e w' ⟨rfl, rfl⟩)
        go_ret
        exact ⟨ret_int (HC.out 1 HE.out), rfl⟩
    · have HE : Hid (cnt op = 1) := by
        show cnt op = 1
        unfold cnt; rw [if_pos (HR.out (.inr (.inl h2)))]
      go_enter Tryz.func108, Tryz.ntmps108
      go_wp2_with (go_at_call 53; refine (iQuant _ _).mono ?_; rintro e w' ⟨rfl, rfl⟩)
      go_ret
      exact ⟨ret_int (HC.out 1 HE.out), rfl⟩
  · have HE : Hid (cnt op = 1) := by
      show cnt op = 1
      unfold cnt; rw [if_pos (HR.out (.inl h1))]
    go_enter Tryz.func108, Tryz.ntmps108
    go_wp2_with (go_at_call 53; refine (iQuant _ _).mono ?_; rintro e w' ⟨rfl, rfl⟩)
    go_ret
    exact ⟨ret_int (HC.out 1 HE.out), rfl⟩

end Go.Proofs.YtdmogjhabladcaaGreat.Pg1

/- The walk of the program's Parts. -/
namespace Go.Proofs.YtdmogjhabladcaaGreat.Pg2
open Go.RowKit
open Nd0 Tm0 Tm5 Pl1 Ap0 Pg1
open Ws1 (ret_int ret_bool)
set_option linter.unusedVariables false

/-- Some numbers more. -/
theorem app_ints {ops : Array Oper} {rest : List Oper} {o : Oper} {a : Act} {Q : Exit → Act → World → Prop} (W : World) (hgd : o.guard = none) (s x : Operand)
    (ho : o.op = .call { callee := .builtin .append, args := #[s, x], argTypes := #[25, 25] })
    (B : Nat) (v : Value) (l ys : List Int) (g c : Nat) (hs : a.eval s = v) (hx : a.eval x = .slice (some ⟨g, 0, none⟩) ys.length c)
    (hy : ∀ j (h : j < ys.length), W.cell? ⟨g, j, none⟩ = some (.int .i64 ys[j])) (hp : 0 < ys.length)
    (hown : Ows W B v l) (hB : B ≤ W.heap.size) (hlen : l.length + ys.length ≤ 1048577)
    (h : ∀ g cap w', Ows w' B (.slice (some ⟨g, 0, none⟩) (l.length + ys.length) cap) (l ++ ys) → Kept (fun k => v.ownBlock = some k) W w' → wpList Tryz.prog ops Q rest (a.put o.dst (.slice (some ⟨g, 0, none⟩) (l.length + ys.length) cap)) w') :
    wpList Tryz.prog ops Q (o :: rest) a W := by
  obtain ⟨i, hi, hzz⟩ := Option.map_eq_some_iff.1 infoInt
  simp only [Prod.mk.injEq] at hzz
  obtain ⟨hz, hsz, hb⟩ := hzz
  refine wpList_append_lies W hgd s x 25 ho B 3 i (.int .i64 0) 1 8 Tryz.underlying25 hi hz hsz hb rfl (by omega) v l.length (l.map fun x => .int .i64 x) hs hown
    ⟨g, 0, none⟩ ys.length c (ys.map fun x => .int .i64 x) hx (by simp) ?_ ?_ hp (by unfold maxLen; omega) (by omega) hB _ rfl ?_
  · intro j u hu
    have hadd : (⟨g, 0, none⟩ : Addr).add j = ⟨g, j, none⟩ := by unfold Addr.add; split <;> simp_all
    rw [hadd]
    rw [List.getElem?_map] at hu
    obtain ⟨y, hy1, rfl⟩ := Option.map_eq_some_iff.1 hu
    obtain ⟨hj, rfl⟩ := List.getElem?_eq_some_iff.1 hy1
    exact hy j hj
  · intro u hu
    obtain ⟨y, _, rfl⟩ := List.mem_map.1 hu
    rfl
  · intro g cap w' h1 h2 h3 h4
    refine h g cap w' ?_ ?_
    · unfold Ows
      simpa using h1
    · exact ⟨h2.os, h2.tape, h2.output, h2.size, fun k hk hn => h2.block k hk (fun e => hn e.symm)⟩

theorem ows_lit (W : World) (B g : Nat) (hg : g = W.heap.size) (hB : B ≤ g) : Ows (W.alloc (.cells #[] 3)) B (.slice (some ⟨g, 0, none⟩) 0 0) [] := by
  subst hg; exact Ows.lit W B hB

theorem get3 (x y z : Int) (W : World) (g t : Nat) (k : Nat) (hk : k ≤ 3) (hg : g = W.heap.size) (j : Nat) (h : j < (([x, y, z] : List Int).take k).length) (o : Obj) :
    ((W.alloc (.cells #[.int .i64 x, .int .i64 y, .int .i64 z] t)).alloc o).cell? ⟨g, j, none⟩ = some (.int .i64 (([x, y, z] : List Int).take k)[j]) := by
  subst hg
  rw [World.cell?_alloc_old _ _ _ (by simp), World.cell?_alloc_new]
  have h3 : j < 3 := by simp at h; omega
  rcases j with _ | _ | _ | j
  · simp
  · simp
  · simp
  · omega

set_option maxHeartbeats 1000000 in
theorem iParts (n : Nd) (w : World) :
    Calls Tryz.prog 69 #[.agg #[.int .i64 n.op, .int .i64 n.w, .int .i64 n.k, .int .i64 n.a, .int .i64 n.b, .int .i64 n.c]] w fun e w' => (∃ a c, e = .returned (.slice a (parts n).length c) ∧ WInts w' w.heap.size a (parts n)) ∧ Below w.heap.size w w' := by
  have HP : Hid (parts n = ([n.a, n.b, n.c] : List Int).take (cnt n.op)) := by
    show parts n = _
    unfold parts cnt; split
    · rfl
    · split
      · rfl
      · split <;> rfl
  have hc3 := cnt_le n.op
  by_cases h1 : cnt n.op = 0
  · go_enter Tryz.func69, Tryz.ntmps69
    go_wp2_with (go_at_call 108; refine (iCount _ _).mono ?_; rintro e w' ⟨rfl, rfl⟩; rw [h1])
    go_ret
    rw [HP.out, h1]
    exact ⟨⟨_, _, rfl, Nat.zero_le _, .inl rfl⟩, (((Below.refl _ _).alloc (Nat.le_refl _) _).alloc (by simp) _).alloc (by simp; omega) _⟩
  · obtain ⟨l3, hl3⟩ : ∃ l3 : List Int, l3 = ([n.a, n.b, n.c] : List Int).take (cnt n.op) := ⟨_, rfl⟩
    have HL3 : Hid (l3 = ([n.a, n.b, n.c] : List Int).take (cnt n.op)) := hl3
    have hlen : l3.length = cnt n.op := by rw [hl3, List.length_take]; simp; omega
    have HLN : Hid (l3.length = cnt n.op) := hlen
    have hcz : (cnt n.op : Int) ≤ 3 := by omega
    clear hl3 hlen
    go_enter Tryz.func69, Tryz.ntmps69
    go_wp2_with (first | (go_at_call 108; refine (iCount _ _).mono ?_; rintro e w' ⟨rfl, rfl⟩) | (at_builtin; go_must (refine app_ints _ rfl _ _ rfl w.heap.size (.slice (some ⟨w.heap.size + 1 + 1, 0, none⟩) 0 0) [] l3 (w.heap.size + 1) 3 rfl (by rw [HLN.out]; rfl) (fun j h => by have h9 := HL3.out; subst h9; exact get3 _ _ _ _ _ _ _ hc3 (by simp) _ h _) (by rw [HLN.out]; omega) (ows_lit _ _ _ (by simp) (by omega)) (by simp; omega) (by rw [HLN.out]; simp; omega) ?_; intro g cp w3 ho3 hk3)))
    have HO3 : Hid (Ows w3 w.heap.size (.slice (some ⟨g, 0, none⟩) (([] : List Int).length + l3.length) cp) ([] ++ l3)) := ho3
    have HK3 := hk3.below (B := w.heap.size) (fun k hk => by cases hk; show w.heap.size ≤ w.heap.size + 1 + 1; omega) (by simp; omega)
    have HB3 : Hid (Below w.heap.size w w3) := ((((Below.refl _ _).alloc (Nat.le_refl _) _).alloc (by simp) _).alloc (by simp; omega) _).trans HK3
    clear ho3 hk3 HK3
    go_wp2
    go_ret
    obtain ⟨a9, c9, hv9, hw9⟩ := HO3.out.form
    simp only [List.nil_append, List.length_nil, Nat.zero_add] at hv9 hw9
    rw [HP.out, ← HL3.out]
    cases hv9
    refine ⟨⟨some ⟨g, 0, none⟩, cp, ?_, hw9⟩, HB3.out⟩
    simp

end Go.Proofs.YtdmogjhabladcaaGreat.Pg2

/- Walks of the program's usedOnly and partsAhead. -/
namespace Go.Proofs.YtdmogjhabladcaaGreat.Pg3
open Go.RowKit
open Nd0 Tm0 Tm5 Pl1 Ap0 Pg1 Pg2
open Ws1 (ret_int ret_bool)
set_option linter.unusedVariables false

/-- A node without what it has no use for. -/
def used (n : Nd) : Nd :=
  ⟨n.op, n.w, if numbered n.op then n.k else 0, if 0 < cnt n.op then n.a else 0, if 1 < cnt n.op ∨ quant n.op = true then n.b else 0, if 2 < cnt n.op then n.c else 0⟩

theorem agg_eq {a b c d e f a' b' c' d' e' f' : Int} (h : a = a' ∧ b = b' ∧ c = c' ∧ d = d' ∧ e = e' ∧ f = f') :
    Ending.returned (.agg #[.int .i64 a, .int .i64 b, .int .i64 c, .int .i64 d, .int .i64 e, .int .i64 f]) = .returned (.agg #[.int .i64 a', .int .i64 b', .int .i64 c', .int .i64 d', .int .i64 e', .int .i64 f']) := by
  obtain ⟨rfl, rfl, rfl, rfl, rfl, rfl⟩ := h; rfl

set_option maxHeartbeats 4000000 in
theorem iUsed (n : Nd) (w : World) :
    Calls Tryz.prog 111 #[.agg #[.int .i64 n.op, .int .i64 n.w, .int .i64 n.k, .int .i64 n.a, .int .i64 n.b, .int .i64 n.c]] w fun e w' => e = .returned (.agg #[.int .i64 (used n).op, .int .i64 (used n).w, .int .i64 (used n).k, .int .i64 (used n).a, .int .i64 (used n).b, .int .i64 (used n).c]) ∧ Below w.heap.size w w' := by
  have HU : ∀ m : Nd, m = used n → Hid (m = used n) := fun m h => h
  have hc3 := cnt_le n.op
  have HC : Hid (cnt n.op = 0 ∨ cnt n.op = 1 ∨ cnt n.op = 2 ∨ cnt n.op = 3) := by show _ ∨ _; omega
  have HV : Hid (used n = ⟨n.op, n.w, if numbered n.op then n.k else 0, if 0 < cnt n.op then n.a else 0, if 1 < cnt n.op ∨ quant n.op = true then n.b else 0, if 2 < cnt n.op then n.c else 0⟩) := rfl
  clear HU hc3
  generalize used n = u at HV ⊢
  cases hn : numbered n.op <;> cases hq : quant n.op <;> rcases HC.out with hc | hc | hc | hc
  all_goals
    have HN : Hid (numbered n.op = _) := hn
    have HQ : Hid (quant n.op = _) := hq
    have HK : Hid (cnt n.op = _) := hc
    go_enter Tryz.func111, Tryz.ntmps111
    go_wp2_with (first | (go_at_call 108; refine (iCount _ _).mono ?_; rintro e w' ⟨rfl, rfl⟩; rw [hc]) | (go_at_call 125; refine (iNumbered _ _).mono ?_; rintro e w' ⟨rfl, rfl⟩; rw [hn]) | (go_at_call 53; refine (iQuant _ _).mono ?_; rintro e w' ⟨rfl, rfl⟩; rw [hq]))
    refine bodyPost_ret (v := .agg #[.int .i64 u.op, .int .i64 u.w, .int .i64 u.k, .int .i64 u.a, .int .i64 u.b, .int .i64 u.c]) ?_ rfl ⟨rfl, ?_⟩
    · have h9 := HV.out
      rw [HN.out, HQ.out, HK.out] at h9
      simp at h9
      subst h9
      simp [results, Tryz.results111, go_sem]
    · exact (((Below.refl _ _).alloc (Nat.le_refl _) _).alloc (by simp) _).alloc (by simp; omega) _

/-- Whether all parts of a node stand ahead of place i. -/
def pahead (n : Nd) (i : Int) : Bool := (parts n).all fun p => decide (0 ≤ p ∧ p < i)

set_option maxHeartbeats 1000000 in
theorem iAhead (n : Nd) (i : Int) (w : World) :
    Calls Tryz.prog 112 #[.agg #[.int .i64 n.op, .int .i64 n.w, .int .i64 n.k, .int .i64 n.a, .int .i64 n.b, .int .i64 n.c], .int .i64 i] w fun e w' => e = .returned (.bool (pahead n i)) ∧ Below w.heap.size w w' := by
  go_enter Tryz.func112, Tryz.ntmps112
  go_wp2_with fail
  refine (iParts n _).mono ?_
  rintro e w1 ⟨⟨pa, pc, rfl, hpi⟩, hb1⟩
  have HP : Hid (Ints w1 pa (parts n)) := hpi.ints
  have HB1 : Hid (Below w.heap.size w w1) := ((Below.refl _ _).alloc (Nat.le_refl _) _).trans (hb1.mono (by simp))
  have hpl := parts_le n
  clear hpi hb1
  go_wp2_with fail
  go_loop [10] (fun q => ∃ k : Nat, k ≤ (parts n).length ∧ q = .int .i64 k ∧ ∀ j (h : j < (parts n).length), j < k → 0 ≤ (parts n)[j] ∧ (parts n)[j] < i) (fun q => (parts n).length - (intOf q).toNat)
  case atStart => exact ⟨0, Nat.zero_le _, rfl, fun j _ hj => by omega⟩
  case round =>
    obtain ⟨k, hk, rfl, hall⟩ := hrel
    have HA : Hid (∀ j (h : j < (parts n).length), j < k → 0 ≤ (parts n)[j] ∧ (parts n)[j] < i) := hall
    clear hall
    by_cases hlt : k < (parts n).length
    · have hlz : (k : Int) < ((parts n).length : Int) := by omega
      rcases HP.out.2 with h0 | ⟨pb, po, rfl, hpc⟩
      · omega
      have pk := hpc k hlt
      clear hpc
      have HBAD : Hid (¬ (0 ≤ (parts n)[k] ∧ (parts n)[k] < i) → pahead n i = false) := by
        show _ → _
        intro h
        unfold pahead
        rw [List.all_eq_false]
        exact ⟨_, List.getElem_mem hlt, by simpa using h⟩
      have HEQ : Hid (∀ x : Int, x = (parts n)[k] → (0 ≤ x ∧ x < i) → ∀ j (h : j < (parts n).length), j < k + 1 → 0 ≤ (parts n)[j] ∧ (parts n)[j] < i) := by
        show ∀ _, _
        intro x hx hxi j h hj
        by_cases e : j = k
        · subst e; subst hx; exact hxi
        · exact HA.out j h (by omega)
      obtain ⟨x, hx⟩ : ∃ x : Int, x = (parts n)[k] := ⟨_, rfl⟩
      rw [← hx] at pk HBAD
      have HX : Hid (x = (parts n)[k]) := hx
      clear hx
      by_cases h1 : x < 0
      · go_wp2
        go_ret
        exact ⟨ret_bool (HBAD.out (by omega)).symm, HB1.out⟩
      · by_cases h2 : i ≤ x
        · go_wp2
          go_ret
          exact ⟨ret_bool (HBAD.out (by omega)).symm, HB1.out⟩
        · go_wp2
          go_round
          case rel => exact ⟨k + 1, by omega, by go_num, HEQ.out x HX.out ⟨by omega, by omega⟩⟩
          case measure => simp [intOf]; omega
    · have HT : Hid (pahead n i = true) := by
        show pahead n i = true
        unfold pahead
        rw [List.all_eq_true]
        intro p hp
        obtain ⟨j, hj, rfl⟩ := List.getElem_of_mem hp
        simpa using HA.out j hj (by omega)
      go_wp2
      go_ret
      exact ⟨ret_bool HT.out.symm, HB1.out⟩

end Go.Proofs.YtdmogjhabladcaaGreat.Pg3

/- The walk of the program's Reached. -/
namespace Go.Proofs.YtdmogjhabladcaaGreat.Pg7
open Go.RowKit
open Nd0 Tm0 Tm1 Tm2 Ap0 Pg2 Rw0
open Lx1 (ITermOk)
open Lx2 (IReached)
open Ws1 (ret_int ret_bool)
set_option linter.unusedVariables false

theorem zeros : Tryz.zeroCells73 = Array.replicate 80 (.bool false) := by kernel_rfl
theorem zeros_get (i : Nat) (h : i < 80) : Tryz.zeroCells73[i]? = some (.bool false) := by
  rw [zeros, Array.getElem?_replicate, if_pos h]

set_option maxRecDepth 100000 in
set_option maxHeartbeats 4000000 in
theorem iReached (hTO : ITermOk) (w : World) (a : Option Addr) (l : List Nd) (c : Nat) (hN : Nodes w a l) (hcap : l.length ≤ c) (hlen : l.length ≤ 1048576) :
    Calls Tryz.prog 28 #[.slice a l.length c] w fun e w' => (∃ a' c', e = .returned (.slice a' (reachedL l).length c') ∧ WInts w' w.heap.size a' (reachedL l)) ∧ Below w.heap.size w w' := by
  have HN : Hid (Nodes w a l) := hN
  have HTO : Hid ITermOk := hTO
  have HCAP : Hid (l.length ≤ c) := hcap
  clear hcap hN hTO
  go_enter Tryz.func28, Tryz.ntmps28
  go_wp2_with fail
  refine (HTO.out _ a l c (HN.out.below ((Below.refl _ _).alloc (Nat.le_refl _) _)) HCAP.out hlen).mono ?_
  rintro e w1 ⟨rfl, hb1⟩
  have HB1 : Hid (Below w.heap.size w w1) := ((Below.refl _ _).alloc (Nat.le_refl _) _).trans (hb1.mono (by simp))
  have HL1 : Hid (Ows w1 w.heap.size (.slice (some ⟨w.heap.size, 0, none⟩) 0 0) []) := (Ows.lit w _ (Nat.le_refl _)).kept (S := fun _ => False) (Kept.ofBelow hb1) (fun _ _ h => h)
  clear hb1
  cases hT : termOk l
  · go_wp2
    go_ret
    have e0 : reachedL l = [] := by unfold reachedL; rw [hT]; rfl
    rw [e0]
    exact ⟨⟨_, _, rfl, Nat.zero_le _, .inl rfl⟩, HB1.out⟩
  · have HT : Hid (termOk l = true) := hT
    obtain ⟨hl1, hl2⟩ := term_len hT
    have hz := zeros_get (l.length - 1) (by omega)
    go_wp2
    clear hz hT
    have HR0 : Hid (Row (w1.alloc (.cells (Tryz.zeroCells73.setIfInBounds (l.length - 1) (.bool true)) 73)) w1.heap.size l.length (fun i => .bool (flag (reachInit l.length) i))) := by
      refine Row.new _ _ _ _ _ (fun i hi => ?_)
      rw [zeros, Array.getElem?_setIfInBounds, Array.getElem?_replicate]
      have e1 : flag (reachInit l.length) i = (i + 1 == l.length) := by simp [flag, reachInit, List.getD, hi]
      by_cases e : l.length - 1 = i
      · rw [if_pos e, if_pos (by simp; omega), e1]
        have : (i + 1 == l.length) = true := by simp; omega
        rw [this]
      · rw [if_neg e, if_pos (by omega), e1]
        have : (i + 1 == l.length) = false := by simp; omega
        rw [this]
    have HBA : Hid (Below w1.heap.size w1 (w1.alloc (.cells (Tryz.zeroCells73.setIfInBounds (l.length - 1) (.bool true)) 73))) := (Below.refl _ _).alloc (Nat.le_refl _) _
    obtain ⟨wa, hwa⟩ : ∃ wa : World, wa = w1.alloc (.cells (Tryz.zeroCells73.setIfInBounds (l.length - 1) (.bool true)) 73) := ⟨_, rfl⟩
    rw [← hwa] at HR0 HBA ⊢
    clear hwa
    obtain ⟨g, hg⟩ : ∃ g : Nat, g = w1.heap.size := ⟨_, rfl⟩
    rw [← hg] at HR0 ⊢
    have HG : Hid (g = w1.heap.size) := hg
    clear hg
    go_loopw [5] (fun q wr => ∃ j : Nat, j ≤ l.length ∧ q = .int .i64 ((j : Int) - 1) ∧ ∃ bs : List Bool, Row wr g l.length (fun i => .bool (flag bs i)) ∧ bs.length = l.length ∧ reachDown l j bs = reachL l ∧ Below w1.heap.size w1 wr) (fun q _ => (intOf q + 1).toNat)
    case atStart => exact ⟨l.length, Nat.le_refl _, rfl, _, HR0.out, reachInit_length _, rfl, HBA.out⟩
    case round =>
      clear HR0 HBA
      obtain ⟨j, hj, rfl, bs, hr, hbl, hrd, hbb⟩ := hrel
      have HRO : Hid (Row wr g l.length (fun i => .bool (flag bs i))) := hr
      have HRD : Hid (reachDown l j bs = reachL l) := hrd
      have HBB : Hid (Below w1.heap.size w1 wr) := hbb
      have HBL : Hid (bs.length = l.length) := hbl
      clear hr hrd hbb hbl
      cases j with
      | zero =>
        have hneg : ¬ (0 : Int) ≤ ((0 : Nat) : Int) - 1 := by omega
        have HRD0 : Hid (bs = reachL l) := HRD.out
        have HRX : Hid (Row wr g l.length (fun i => .bool (flag (reachL l) i))) := HRD0.out ▸ HRO.out
        have HL2 : Hid (Ows wr w.heap.size (.slice (some ⟨w.heap.size, 0, none⟩) 0 0) []) := HL1.out.kept (S := fun _ => False) (Kept.ofBelow HBB.out) (fun _ _ h => h)
        have HBW : Hid (Below w.heap.size w wr) := HB1.out.trans (HBB.out.mono HB1.out.size)
        obtain ⟨wz, rfl⟩ : ∃ wz : World, wz = wr := ⟨_, rfl⟩
        go_wp2
        go_loopw [3, 43] (fun v q wr => ∃ k : Nat, k ≤ l.length ∧ q = .int .i64 k ∧ Ows wr w.heap.size v (reachTo l k) ∧ Below w.heap.size w wr ∧ Row wr g l.length (fun i => .bool (flag (reachL l) i)) ∧ (∀ x, v.ownBlock = some x → x ≠ g)) (fun _ q _ => l.length - (intOf q).toNat)
        case atStart =>
          refine ⟨0, Nat.zero_le _, rfl, HL2.out, HBW.out, HRX.out, fun x hx => ?_⟩
          have := (HL1.out.lt x hx).2
          have := HG.out
          omega
        case round =>
          clear HL2 HBW HRX
          obtain ⟨k, hk, rfl, ho, hb, hr, hne⟩ := hrel
          have HO : Hid (Ows wr w.heap.size u3 (reachTo l k)) := ho
          have HB : Hid (Below w.heap.size w wr) := hb
          have HR : Hid (Row wr g l.length (fun i => .bool (flag (reachL l) i))) := hr
          have HNE : Hid (∀ x, u3.ownBlock = some x → x ≠ g) := hne
          have hBs : w.heap.size ≤ wr.heap.size := hb.size
          have hrl := reachTo_length l k
          clear hb hr hne
          by_cases hlt : k < l.length
          · clear ho
            have hlz : (k : Int) < (l.length : Int) := by omega
            have hk80 : (k : Int) < 80 := by omega
            have cI : wr.cell? ⟨g, k, none⟩ = some (.bool (flag (reachL l) k)) := (HR.out k hlt).1
            have HTS : Hid (reachTo l (k + 1) = if flag (reachL l) k then reachTo l k ++ [(k : Int)] else reachTo l k) := reachTo_succ l k
            cases hf : flag (reachL l) k
            · rw [hf] at cI
              have HT2 : Hid (reachTo l (k + 1) = reachTo l k) := by
                show _ = _
                rw [HTS.out, hf]; rfl
              go_wp2
              go_roundw
              case rel => exact ⟨k + 1, by omega, by go_num, HT2.out.symm ▸ HO.out, HB.out, HR.out, HNE.out⟩
              case measure => simp [intOf]; omega
            · rw [hf] at cI
              have HT2 : Hid (reachTo l (k + 1) = reachTo l k ++ [(k : Int)]) := by
                show _ = _
                rw [HTS.out, hf]; rfl
              go_wp2_with (at_builtin; go_must (refine app_int _ rfl _ _ rfl w.heap.size u3 (reachTo l k) (k : Int) rfl rfl HO.out hBs (by omega) ?_; intro g' cp w3 ho3 hk3 hg3))
              have HO3 : Hid (Ows w3 w.heap.size (.slice (some ⟨g', 0, none⟩) ((reachTo l k).length + 1) cp) (reachTo l k ++ [(k : Int)])) := ho3
              have HK3 : Hid (Kept (fun k => u3.ownBlock = some k) wr w3) := hk3
              have HG3 : Hid (u3.ownBlock = some g' ∨ wr.heap.size ≤ g') := hg3
              clear ho3 hk3 hg3
              go_wp2
              go_roundw
              case rel =>
                refine ⟨k + 1, by omega, by go_num, HT2.out.symm ▸ HO3.out, HB.out.trans (HK3.out.below (fun k hk => (HO.out.lt k hk).1) hBs), HR.out.kept HK3.out (fun e => HNE.out g e rfl), fun x hx => ?_⟩
                cases hx
                rcases HG3.out with e | e
                · exact HNE.out _ e
                · have := HR.out.lt (by omega)
                  show g' ≠ g
                  omega
              case measure => simp [intOf]; omega
          · have e2 : k = l.length := by omega
            subst e2
            obtain ⟨a9, c9, rfl, hw9⟩ := ho.form
            have HW9 : Hid (WInts wr w.heap.size a9 (reachTo l l.length)) := hw9
            clear ho hw9 HO
            go_wp2
            go_ret
            have e0 : reachedL l = reachTo l l.length := by unfold reachedL; rw [HT.out]; rfl
            rw [e0]
            exact ⟨⟨_, _, rfl, HW9.out⟩, HB.out⟩
      | succ i =>
        have hp : (0 : Int) ≤ ((i + 1 : Nat) : Int) - 1 := by omega
        have hie : ((i + 1 : Nat) : Int) - 1 = (i : Int) := by omega
        rw [hie]
        clear hie hp
        have hiz : (i : Int) < (l.length : Int) := by omega
        have hi80 : (i : Int) < 80 := by omega
        have cI : wr.cell? ⟨g, i, none⟩ = some (.bool (flag bs i)) := (HRO.out i (by omega)).1
        cases hfb : flag bs i
        · rw [hfb] at cI
          have HST : Hid (reachDown l i bs = reachL l) := by
            show _ = _
            rw [← HRD.out]
            show _ = reachDown l i (reachStep l bs i)
            unfold reachStep
            rw [hfb]; rfl
          go_wp2
          go_roundw
          case rel => exact ⟨i, by omega, by go_num, bs, HRO.out, HBL.out, HST.out, HBB.out⟩
          case measure => simp [intOf]
        · rw [hfb] at cI
          rcases ((HN.out.below HB1.out).below HBB.out).2 with h0 | ⟨xb, xo, rfl, hc⟩
          · omega
          obtain ⟨p0, p1, p2, p3, p4, p5⟩ := hc i (by omega)
          rw [nth_get (by omega : i < l.length)] at p0 p1 p2 p3 p4 p5
          clear hc
          have HPO := parts_ok (term_node HT.out (by omega : i < l.length))
          generalize hn : nth l i = n at p0 p1 p2 p3 p4 p5 HPO
          have HD : Hid (nth l i = n) := hn
          have HPO' : Hid (∀ k (hk : k < (parts n).length), 0 ≤ (parts n)[k] ∧ (parts n)[k] < i) := HPO
          clear hn HPO
          obtain ⟨wb, rfl⟩ : ∃ wb : World, wb = wr := ⟨_, rfl⟩
          have hgb : g < wb.heap.size := HRO.out.lt (by omega)
          go_wp2_with fail
          refine (iParts n _).mono ?_
          rintro e w2 ⟨⟨pa, pc, rfl, hpi⟩, hb2⟩
          have HP : Hid (IntsIn w2 wb.heap.size w2.heap.size pa (parts n)) := hpi.within
          have HRW : Hid (Row w2 g l.length (fun i => .bool (flag bs i))) := HRO.out.below hb2
          have HB2 : Hid (Below w1.heap.size w1 w2) := HBB.out.trans (hb2.mono HBB.out.size)
          clear hpi hb2 p0 p1 p2 p3 p4 p5 cI
          have hpl := parts_le n
          go_wp2_with fail
          go_loopw [34] (fun q wr => ∃ k : Nat, k ≤ (parts n).length ∧ q = .int .i64 k ∧ ∃ b3 : List Bool, Row wr g l.length (fun i => .bool (flag b3 i)) ∧ b3.length = l.length ∧ markAll b3 ((parts n).drop k) = markAll bs (parts n) ∧ Kept (fun x => x = g) w2 wr) (fun q _ => (parts n).length - (intOf q).toNat)
          case atStart => exact ⟨0, Nat.zero_le _, rfl, bs, HRW.out, HBL.out, rfl, Kept.refl _ _⟩
          case round =>
            obtain ⟨k, hk, rfl, b3, hr3, hl3, hm3, hk3⟩ := hrel
            have HR3 : Hid (Row wr g l.length (fun i => .bool (flag b3 i))) := hr3
            have HL3 : Hid (b3.length = l.length) := hl3
            have HM3 : Hid (markAll b3 ((parts n).drop k) = markAll bs (parts n)) := hm3
            have HK3 : Hid (Kept (fun x => x = g) w2 wr) := hk3
            clear hr3 hl3 hm3 hk3
            by_cases hlt : k < (parts n).length
            · have hlz : (k : Int) < ((parts n).length : Int) := by omega
              rcases (HP.out.kept HK3.out (fun b h1 h2 e => by omega)).2 with h0 | ⟨pb, po, rfl, hpB, hpU, hpc⟩
              · omega
              have q0 := (hpc k hlt).1
              obtain ⟨hx0, hx1⟩ := HPO'.out k hlt
              have HDR : Hid ((parts n).drop k = (parts n)[k] :: (parts n).drop (k + 1)) := List.drop_eq_getElem_cons hlt
              clear hpc hpB hpU
              generalize (parts n)[k] = x at q0 hx0 hx1 HDR
              obtain ⟨jx, rfl⟩ := Int.eq_ofNat_of_zero_le hx0
              obtain ⟨c1, c2⟩ := HR3.out jx (by omega)
              have hxz : (jx : Int) < 80 := by omega
              go_wp2
              go_roundw
              case rel =>
                have hle : jx < b3.length := by rw [HL3.out]; omega
                refine ⟨k + 1, by omega, by go_num, b3.set jx true, ?_, by rw [List.length_set]; exact HL3.out, ?_, HK3.out.setCell rfl _⟩
                · refine (HR3.out.set (by omega) _).congr (fun i hi => ?_)
                  rw [flag_set hle]
                  by_cases e : i = jx
                  · rw [if_pos e, if_pos e.symm]
                  · rw [if_neg e, if_neg (fun x => e x.symm)]
                · have h9 := HM3.out
                  rw [HDR.out] at h9
                  exact h9
              case measure => simp [intOf]; omega
            · have HST : Hid (reachDown l i b3 = reachL l) := by
                show _ = _
                rw [← HRD.out]
                show _ = reachDown l i (reachStep l bs i)
                unfold reachStep
                rw [hfb, HD.out]
                have h9 := HM3.out
                rw [List.drop_of_length_le (by omega)] at h9
                exact congrArg _ h9
              go_wp2
              go_roundw
              case rel => exact ⟨i, by omega, by go_num, b3, HR3.out, HL3.out, HST.out, HB2.out.trans (HK3.out.below (fun k hk => by have := HG.out; omega) HB2.out.size)⟩
              case measure => simp [intOf]

end Go.Proofs.YtdmogjhabladcaaGreat.Pg7

/- Walks of the program's sets of variables: justVar and numbers. -/
namespace Go.Proofs.YtdmogjhabladcaaGreat.Pg8
open Go.RowKit
open Nd0 Pl1 Tm0 Tm1 Tm4 Tm7 Ap0
open Ws1 (ret_int ret_bool)
set_option linter.unusedVariables false

set_option maxHeartbeats 1000000 in
theorem iJust (kk : Nat) (w : World) (h7 : kk ≤ 7) :
    Calls Tryz.prog 121 #[.int .i64 kk] w fun e w' => e = .returned (.int .u8 ((2 ^ kk : Nat) : Int)) ∧ w' = w := by
  have h8 : kk = 0 ∨ kk = 1 ∨ kk = 2 ∨ kk = 3 ∨ kk = 4 ∨ kk = 5 ∨ kk = 6 ∨ kk = 7 := by omega
  rcases h8 with rfl | rfl | rfl | rfl | rfl | rfl | rfl | rfl
  all_goals
    go_enter Tryz.func121, Tryz.ntmps121
    go_wp2
    go_ret
    exact ⟨ret_int (by decide), rfl⟩

end Go.Proofs.YtdmogjhabladcaaGreat.Pg8

/- The walk of the program's freeSet. -/
namespace Go.Proofs.YtdmogjhabladcaaGreat.Pg9
open Go.RowKit
open Nd0 Pl1 Tm0 Tm1 Tm4 Tm5 Tm7 Ap0 Pg1 Pg2 Pg8 Rw0
open Ws1 (ret_int ret_bool)
open Lx1 (ITermOk)
set_option linter.unusedVariables false

theorem zeros8 : Tryz.zeroCells149 = Array.replicate 80 (.int .u8 0) := by kernel_rfl

theorem var_of {l : List Nd} {k : Nat} (h : nodeOk l k = true) (hop : (nth l k).op = 1 ∨ quant (nth l k).op = true) : ∃ kk : Nat, (nth l k).k = (kk : Int) ∧ kk ≤ 7 := by
  simp only [nodeOk, Bool.and_eq_true] at h
  have hs := h.2
  unfold shapeOk at hs
  have hb : 0 ≤ (nth l k).k ∧ (nth l k).k ≤ 7 := by
    rcases hop with h1 | h1
    · rw [if_neg (by omega), if_pos h1] at hs
      simp at hs; omega
    · have h2 : (nth l k).op = 19 ∨ (nth l k).op = 20 := by simpa [quant] using h1
      rw [if_neg (by omega), if_neg (by omega), if_neg (by omega), if_neg (by omega), if_neg (by omega), if_neg (by omega), if_neg (by omega), if_neg (by omega), if_pos h2] at hs
      simp at hs; omega
  exact ⟨(nth l k).k.toNat, by omega, by omega⟩

/-- The sets of the first k nodes stand in s, the rest are empty. -/
def Sets (l : List Nd) (k : Nat) (s : Nat → Nat) : Prop := (∀ i, i < k → Has (s i) (row (freeRows l k) (i : Int))) ∧ ∀ i, k ≤ i → s i = 0

theorem sets_next {l : List Nd} {k : Nat} {s s' : Nat → Nat} {x : Nat} (h : Sets l k s) (hx : Has x (freeRow (freeRows l k) (nth l k))) (hs : ∀ i, s' i = if i = k then x else s i) : Sets l (k + 1) s' := by
  constructor
  · intro i hi
    rw [hs i]
    by_cases e : i = k
    · subst e; rw [if_pos rfl, row_new]; exact hx
    · rw [if_neg e, row_old l k (i : Int) (by omega) (by omega)]; exact h.1 i (by omega)
  · intro i hi
    rw [hs i, if_neg (by omega)]; exact h.2 i (by omega)

set_option maxRecDepth 100000 in
set_option maxHeartbeats 4000000 in
theorem iFreeSet (w : World) (a : Option Addr) (l : List Nd) (c : Nat) (hN : Nodes w a l) (hT : termOk l = true) :
    Calls Tryz.prog 95 #[.slice a l.length c] w fun e w' => (∃ s : Nat, e = .returned (.int .u8 s) ∧ Has s (freeTop l)) ∧ Below w.heap.size w w' := by
  have HN : Hid (Nodes w a l) := hN
  have HT : Hid (termOk l = true) := hT
  obtain ⟨hl1, hl2⟩ := term_len hT
  clear hN hT
  obtain ⟨g, hg⟩ : ∃ g : Nat, g = w.heap.size := ⟨_, rfl⟩
  have HG : Hid (g = w.heap.size) := hg
  have HR0 : Hid (Row (w.alloc (.cells Tryz.zeroCells149 149)) g 80 (fun i => .int .u8 (((fun _ => 0) i : Nat) : Int))) := by
    rw [hg]
    refine Row.new _ _ _ _ _ (fun i hi => ?_)
    rw [zeros8, Array.getElem?_replicate, if_pos hi]; rfl
  have HB0 : Hid (Below w.heap.size w (w.alloc (.cells Tryz.zeroCells149 149))) := (Below.refl _ _).alloc (Nat.le_refl _) _
  go_enter Tryz.func95, Tryz.ntmps95
  go_wp2
  rw [← hg]
  clear hg
  generalize w.alloc (.cells Tryz.zeroCells149 149) = wa at HR0 HB0 ⊢
  go_loopw [10] (fun q wr => ∃ k : Nat, k ≤ l.length ∧ q = .int .i64 k ∧ ∃ s : Nat → Nat, Row wr g 80 (fun i => .int .u8 ((s i : Nat) : Int)) ∧ Sets l k s ∧ Below w.heap.size w wr) (fun q _ => l.length - (intOf q).toNat)
  case atStart => exact ⟨0, Nat.zero_le _, rfl, _, HR0.out, ⟨fun i hi => by omega, fun i _ => rfl⟩, HB0.out⟩
  case round =>
    clear HR0 HB0
    obtain ⟨k, hk, rfl, s, hr, hs, hb⟩ := hrel
    have HR : Hid (Row wr g 80 (fun i => .int .u8 ((s i : Nat) : Int))) := hr
    have HS : Hid (Sets l k s) := hs
    have HB : Hid (Below w.heap.size w wr) := hb
    clear hr hs hb
    have hgl : g < wr.heap.size := HR.out.lt (by omega)
    by_cases hlt : k < l.length
    · have hlz : (k : Int) < (l.length : Int) := by omega
      have hk80 : (k : Int) < 80 := by omega
      rcases (HN.out.below HB.out).2 with h0 | ⟨xb, xo, rfl, hc⟩
      · omega
      obtain ⟨p0, p1, p2, p3, p4, p5⟩ := hc k hlt
      rw [nth_get hlt] at p0 p1 p2 p3 p4 p5
      clear hc
      have HPO := parts_ok (term_node HT.out hlt)
      have HV : Hid ((nth l k).op = 1 ∨ quant (nth l k).op = true → ∃ kk : Nat, (nth l k).k = (kk : Int) ∧ kk ≤ 7) := fun h => var_of (term_node HT.out hlt) h
      have HNX : Hid (∀ s' x, Has x (freeRow (freeRows l k) (nth l k)) → (∀ i, s' i = if i = k then x else s i) → Sets l (k + 1) s') := fun s' x h1 h2 => sets_next HS.out h1 h2
      generalize hn : nth l k = n at p0 p1 p2 p3 p4 p5 HPO HV HNX
      clear hn
      have HPO' : Hid (∀ j (hj : j < (parts n).length), 0 ≤ (parts n)[j] ∧ (parts n)[j] < k) := HPO
      clear HPO
      have hgn : ¬ g = wr.heap.size := by omega
      obtain ⟨c1, c2⟩ := HR.out k (by omega)
      by_cases h1 : n.op = 1
      · obtain ⟨kk, hkk, hk7⟩ := HV.out (.inl h1)
        have h1b : (n.op == 1) = true := by simpa using h1
        rw [hkk] at p2
        have HX : Hid (Some_ (2 ^ kk) (freeRows l k) n 0) := some_start_var h1 hkk hk7
        have HP0 : Hid (parts n = []) := parts_none (by omega) (by omega) (by omega)
        have HQ0 : Hid ((n.op == 19 || n.op == 20) = false) := by show _ = _; simp [h1]
        have hpe : (parts ⟨1, n.w, (kk : Int), n.a, n.b, n.c⟩).length = 0 := by
          rw [parts_none (by simp) (by simp) (by simp)]; rfl
        have HRX : Hid (Row (wr.setCell ⟨g, k, none⟩ (.int .u8 (2 ^ kk))) g 80 (fun i => .int .u8 (((fun i => if i = k then 2 ^ kk else s i) i : Nat) : Int))) := by
          refine (HR.out.set (by omega) _).congr (fun i hi => ?_)
          by_cases e : i = k
          · simp [e]
          · simp [e]
        have HBX : Hid (Below w.heap.size w (wr.setCell ⟨g, k, none⟩ (.int .u8 (2 ^ kk)))) :=
          HB.out.trans (((Kept.refl (fun b => b = g) wr).setCell (p := ⟨g, k, none⟩) rfl _).below (fun b hb => by have := HG.out; omega) HB.out.size)
        have hsz : (wr.setCell ⟨g, k, none⟩ (.int .u8 (2 ^ kk))).heap.size = wr.heap.size := by simp [World.setCell]
        have HSZ : Hid ((wr.setCell ⟨g, k, none⟩ (.int .u8 (2 ^ kk))).heap.size = wr.heap.size) := hsz
        clear hsz
        go_wp2_with (go_at_call 121; refine (iJust kk _ hk7).mono ?_; rintro e w' ⟨rfl, rfl⟩)
        generalize wr.setCell ⟨g, k, none⟩ (.int .u8 (2 ^ kk)) = wc at HRX HBX HSZ ⊢
        refine (iParts ⟨1, n.w, (kk : Int), n.a, n.b, n.c⟩ _).mono ?_
        rintro e w2 ⟨⟨pa, pc, rfl, hpi⟩, hb2⟩
        have hcs : wr.heap.size < (wc.alloc (.cells #[.int .i64 1, .int .i64 n.w, .int .i64 kk, .int .i64 n.a, .int .i64 n.b, .int .i64 n.c] 31)).heap.size := by
          have := HSZ.out; simp; omega
        have b0 : w2.cell? ⟨wr.heap.size, 0, none⟩ = some (.int .i64 1) := by
          rw [hb2.cell hcs, ← HSZ.out, World.cell?_alloc_new]; rfl
        have HR2 : Hid (Row w2 g 80 (fun i => .int .u8 (((fun i => if i = k then 2 ^ kk else s i) i : Nat) : Int))) := (HRX.out.below ((Below.refl _ _).alloc (Nat.le_refl _) _)).below hb2
        have HB2 : Hid (Below w.heap.size w w2) := (HBX.out.alloc (by have := HSZ.out; have := HB.out.size; omega) _).trans (hb2.mono (by have := HSZ.out; have := HB.out.size; simp; omega))
        clear hpi hb2 hcs p0 p1 p2 p3 p4 p5 c1 c2
        have hq : quant 1 = false := by decide
        go_wp2_with fail
        go_loopw [26] (fun q wq => q = .int .i64 0 ∧ wq = w2) (fun _ _ => 0)
        case atStart => exact ⟨rfl, rfl⟩
        case round =>
          obtain ⟨rfl, rfl⟩ := hrel
          go_wp2_with (go_at_call 53; refine (iQuant _ _).mono ?_; rintro e w' ⟨rfl, rfl⟩; rw [hq])
          go_roundw
          case rel => exact ⟨k + 1, by omega, by go_num, _, HR2.out, HNX.out _ _ (some_end HX.out (by rw [HP0.out]; simp) HQ0.out) (fun i => rfl), HB2.out⟩
          case measure => simp [intOf]; omega
      · have h1b : (n.op == 1) = false := by simpa using h1
        obtain ⟨wb, rfl⟩ : ∃ wb : World, wb = wr := ⟨_, rfl⟩
        go_wp2_with fail
        refine (iParts n _).mono ?_
        rintro e w2 ⟨⟨pa, pc, rfl, hpi⟩, hb2⟩
        have hBA : Below wb.heap.size wb (wb.alloc (.cells #[.int .i64 n.op, .int .i64 n.w, .int .i64 n.k, .int .i64 n.a, .int .i64 n.b, .int .i64 n.c] 31)) := (Below.refl _ _).alloc (Nat.le_refl _) _
        have HP : Hid (IntsIn w2 (wb.heap.size + 1) w2.heap.size pa (parts n)) := by
          have h9 := hpi.within
          simp at h9
          exact h9
        have HR2 : Hid (Row w2 g 80 (fun i => .int .u8 ((s i : Nat) : Int))) := (HR.out.below hBA).below hb2
        have HB2 : Hid (Below w.heap.size w w2) := (HB.out.trans (hBA.mono HB.out.size)).trans (hb2.mono (by have := HB.out.size; simp; omega))
        have hcs : wb.heap.size < (wb.alloc (.cells #[.int .i64 n.op, .int .i64 n.w, .int .i64 n.k, .int .i64 n.a, .int .i64 n.b, .int .i64 n.c] 31)).heap.size := by simp
        have HC0 : Hid (w2.cell? ⟨wb.heap.size, 0, none⟩ = some (.int .i64 n.op)) := by
          show _ = _
          rw [hb2.cell hcs, World.cell?_alloc_new]; rfl
        have HC2 : Hid (w2.cell? ⟨wb.heap.size, 2, none⟩ = some (.int .i64 n.k)) := by
          show _ = _
          rw [hb2.cell hcs, World.cell?_alloc_new]; rfl
        have HS2 : Hid (wb.heap.size < w2.heap.size) := Nat.lt_of_lt_of_le hcs hb2.size
        have HX0 : Hid (Some_ 0 (freeRows l k) n 0) := some_start h1b
        clear hpi hb2 hBA hcs p0 p1 p2 p3 p4 p5 c1 c2 h1b
        have hpl := parts_le n
        go_wp2_with fail
        go_loopw [26] (fun q wq => ∃ j : Nat, j ≤ (parts n).length ∧ q = .int .i64 j ∧ ∃ x : Nat, Some_ x (freeRows l k) n j ∧ Row wq g 80 (fun i => .int .u8 (((fun i => if i = k then x else s i) i : Nat) : Int)) ∧ Kept (fun b => b = g) w2 wq) (fun q _ => (parts n).length - (intOf q).toNat)
        case atStart =>
          refine ⟨0, Nat.zero_le _, rfl, 0, HX0.out, HR2.out.congr (fun i hi => ?_), Kept.refl _ _⟩
          by_cases e : i = k
          · subst e
            have := HS.out.2 i (Nat.le_refl _)
            simp [this]
          · simp [e]
        case round =>
          obtain ⟨j, hj, rfl, x, hx, hrx, hkx⟩ := hrel
          have HX : Hid (Some_ x (freeRows l k) n j) := hx
          have HRX : Hid (Row wr g 80 (fun i => .int .u8 (((fun i => if i = k then x else s i) i : Nat) : Int))) := hrx
          have HKX : Hid (Kept (fun b => b = g) w2 wr) := hkx
          have hx256 := hx.1
          clear hx hrx hkx
          have HBX : Hid (Below w.heap.size w wr) := HB2.out.trans (HKX.out.below (fun b hb => by have := HG.out; omega) HB2.out.size)
          obtain ⟨c1, c2⟩ := HRX.out k (by omega)
          simp only [if_true] at c1 c2
          by_cases hlt2 : j < (parts n).length
          · have hjz : (j : Int) < ((parts n).length : Int) := by omega
            rcases (HP.out.kept HKX.out (fun b h1 h2 e => by omega)).2 with h0 | ⟨pb, po, rfl, hpB, hpU, hpc⟩
            · omega
            have q0 := (hpc j hlt2).1
            obtain ⟨hy0, hy1⟩ := HPO'.out j hlt2
            have HNXT : Hid (∀ t, Has t (row (freeRows l k) (parts n)[j]) → Some_ (x ||| t) (freeRows l k) n (j + 1)) := fun t ht => some_next HX.out hlt2 ht
            clear hpc hpB hpU
            generalize (parts n)[j] = y at q0 hy0 hy1 HNXT
            obtain ⟨jy, rfl⟩ := Int.eq_ofNat_of_zero_le hy0
            have hjk : jy < k := by omega
            have hy80 : (jy : Int) < 80 := by omega
            have HHY : Hid (Has (s jy) (row (freeRows l k) (jy : Int))) := HS.out.1 jy hjk
            obtain ⟨d1, _⟩ := HRX.out jy (by omega)
            have hne : ¬ jy = k := by omega
            simp only [if_neg hne] at d1
            have hs256 := HHY.out.1
            have hor : bits .or .u8 (x : Int) (s jy : Int) = ((x ||| s jy : Nat) : Int) := bits_or_u8_nat _ _ hx256 hs256
            clear hy0 hy1
            have HEND : Hid (∃ x', Some_ x' (freeRows l k) n (j + 1) ∧ x' = x ||| s jy) := ⟨_, HNXT.out _ HHY.out, rfl⟩
            generalize x ||| s jy = z at hor HEND
            generalize s jy = y at *
            go_wp2
            go_region
            all_goals
              go_wp2
              go_roundw
              case rel =>
                obtain ⟨x', hx', rfl⟩ := HEND.out
                refine ⟨j + 1, by omega, by go_num, x', hx', ?_, (HKX.out.setCell (p := ⟨g, k, none⟩) rfl _).drew⟩
                refine Row.drew ((HRX.out.set (by omega) _).congr (fun i hi => ?_))
                by_cases e : i = k
                · simp [e]
                · simp [e]
              case measure => simp [intOf]; omega
          · have hjz : ¬ (j : Int) < ((parts n).length : Int) := by omega
            have b0 : wr.cell? ⟨wb.heap.size, 0, none⟩ = some (.int .i64 n.op) := by
              rw [HKX.out.cell (p := ⟨wb.heap.size, 0, none⟩) HS2.out (fun e => by simp at e; omega)]; exact HC0.out
            cases hq : quant n.op
            · go_wp2_with (go_at_call 53; refine (iQuant _ _).mono ?_; rintro e w' ⟨rfl, rfl⟩; rw [hq])
              go_roundw
              case rel => exact ⟨k + 1, by omega, by go_num, _, HRX.out, HNX.out _ _ (some_end HX.out (by omega) hq) (fun i => rfl), HBX.out⟩
              case measure => simp [intOf]; omega
            · obtain ⟨kk, hkk, hk7⟩ := HV.out (.inr hq)
              have b2 : wr.cell? ⟨wb.heap.size, 2, none⟩ = some (.int .i64 kk) := by
                rw [HKX.out.cell (p := ⟨wb.heap.size, 2, none⟩) HS2.out (fun e => by simp at e; omega), ← hkk]; exact HC2.out
              have HH : Hid (Has (x &&& (255 - 2 ^ kk)) (freeRow (freeRows l k) n)) := some_end_quant HX.out (by omega) hq hkk hk7
              have e256 : 2 ^ kk < 256 := Nat.lt_of_le_of_lt (Nat.pow_le_pow_right (n := 2) (by omega) hk7) (by decide)
              have hand : bits .andNot .u8 (x : Int) ((2 ^ kk : Nat) : Int) = ((x &&& (255 - 2 ^ kk) : Nat) : Int) := bits_andNot_u8_nat _ _ hx256 e256
              obtain ⟨pw, hpw⟩ : ∃ pw : Nat, pw = 2 ^ kk := ⟨_, rfl⟩
              have HJ : Hid (∀ w : World, Calls Tryz.prog 121 #[.int .i64 kk] w fun e w' => e = .returned (.int .u8 (pw : Int)) ∧ w' = w) := by
                rw [hpw]; exact fun w => iJust kk w hk7
              rw [← hpw] at hand HH
              clear hpw e256
              generalize x &&& (255 - pw) = z at hand HH
              clear hkk
              go_wp2_with (go_at_call 53; refine (iQuant _ _).mono ?_; rintro e w' ⟨rfl, rfl⟩; rw [hq])
              go_region_with (go_at_call 121; refine (HJ.out _).mono ?_; rintro e w' ⟨rfl, rfl⟩)
              all_goals
                go_wp2
                go_roundw
                case rel =>
                  refine ⟨k + 1, by omega, by go_num, (fun i => if i = k then z else s i), ?_, HNX.out _ _ HH.out (fun i => rfl), ?_⟩
                  · refine Row.drew ((HRX.out.set (by omega) _).congr (fun i hi => ?_))
                    by_cases e : i = k
                    · simp [e]
                    · simp [e]
                  · exact (HBX.out.trans (((Kept.refl (fun b => b = g) _).setCell (p := ⟨g, k, none⟩) rfl _).below (fun b (hb : b = g) => by have := HG.out; omega) HBX.out.size)).drew
                case measure => simp [intOf]; omega
    · have e2 : k = l.length := by omega
      subst e2
      have cI : wr.cell? ⟨g, l.length - 1, none⟩ = some (.int .u8 ((s (l.length - 1) : Nat) : Int)) := (HR.out (l.length - 1) (by omega)).1
      have HH : Hid (Has (s (l.length - 1)) (freeTop l)) := by
        have h9 := HS.out.1 (l.length - 1) (by omega)
        have e : ((l.length - 1 : Nat) : Int) = (l.length : Int) - 1 := by omega
        rw [e] at h9
        exact h9
      have g1 : (0 : Int) ≤ (l.length : Int) - 1 := by omega
      have g2 : (l.length : Int) - 1 < 80 := by omega
      go_wp2
      go_ret
      exact ⟨⟨_, rfl, HH.out⟩, HB.out⟩

end Go.Proofs.YtdmogjhabladcaaGreat.Pg9

/- The walk of the program's moved and Prune. -/
namespace Go.Proofs.YtdmogjhabladcaaGreat.Pg10
open Go.RowKit
open Nd0 Nd3 Tm0 Tm1 Tm2 Tm3 Tm8 Ap2 Pg1 Pg2 Rw0
open Lx1 (ITermOk)
open Lx2 (IReached)
open Ws1 (ret_int ret_bool)
set_option linter.unusedVariables false

/-- A node with its parts told by other places. -/
def mv (P : Nat → Int) (n : Nd) : Nd :=
  ⟨n.op, n.w, n.k, if 0 < cnt n.op then P n.a.toNat else n.a, if 1 < cnt n.op then P n.b.toNat else n.b, if 2 < cnt n.op then P n.c.toNat else n.c⟩

set_option maxHeartbeats 4000000 in
theorem iMoved (n : Nd) (w : World) (gp len cap : Nat) (P : Nat → Int) (hr : Row w gp len (fun i => .int .i64 (P i))) (hp : ∀ p ∈ parts n, 0 ≤ p ∧ p < (len : Int)) (hl : len ≤ 80) :
    Calls Tryz.prog 104 #[.agg #[.int .i64 n.op, .int .i64 n.w, .int .i64 n.k, .int .i64 n.a, .int .i64 n.b, .int .i64 n.c], .slice (some ⟨gp, 0, none⟩) len cap] w fun e w' =>
      e = .returned (.agg #[.int .i64 (mv P n).op, .int .i64 (mv P n).w, .int .i64 (mv P n).k, .int .i64 (mv P n).a, .int .i64 (mv P n).b, .int .i64 (mv P n).c]) ∧ Below w.heap.size w w' := by
  have hc3 := cnt_le n.op
  have hcp := cnt_parts n
  have HC : Hid (cnt n.op = 0 ∨ cnt n.op = 1 ∨ cnt n.op = 2 ∨ cnt n.op = 3) := by show _ ∨ _; omega
  have HV : Hid (mv P n = ⟨n.op, n.w, n.k, if 0 < cnt n.op then P n.a.toNat else n.a, if 1 < cnt n.op then P n.b.toNat else n.b, if 2 < cnt n.op then P n.c.toNat else n.c⟩) := rfl
  have HPC := parts_cases n
  have HA : Hid (0 < cnt n.op → ∃ j : Nat, n.a = (j : Int) ∧ j < len ∧ w.cell? ⟨gp, j, none⟩ = some (.int .i64 (P n.a.toNat))) := by
    show _ → _
    intro h
    have hm : n.a ∈ parts n := by
      rcases HPC with e | e | e | e
      · rw [e] at hcp; simp at hcp; omega
      · rw [e]; simp
      · rw [e]; simp
      · rw [e]; simp
    obtain ⟨h0, h1⟩ := hp _ hm
    exact ⟨n.a.toNat, by omega, by omega, (hr n.a.toNat (by omega)).1⟩
  have HB : Hid (1 < cnt n.op → ∃ j : Nat, n.b = (j : Int) ∧ j < len ∧ w.cell? ⟨gp, j, none⟩ = some (.int .i64 (P n.b.toNat))) := by
    show _ → _
    intro h
    have hm : n.b ∈ parts n := by
      rcases HPC with e | e | e | e
      · rw [e] at hcp; simp at hcp; omega
      · rw [e] at hcp; simp at hcp; omega
      · rw [e]; simp
      · rw [e]; simp
    obtain ⟨h0, h1⟩ := hp _ hm
    exact ⟨n.b.toNat, by omega, by omega, (hr n.b.toNat (by omega)).1⟩
  have HD : Hid (2 < cnt n.op → ∃ j : Nat, n.c = (j : Int) ∧ j < len ∧ w.cell? ⟨gp, j, none⟩ = some (.int .i64 (P n.c.toNat))) := by
    show _ → _
    intro h
    have hm : n.c ∈ parts n := by
      rcases HPC with e | e | e | e
      · rw [e] at hcp; simp at hcp; omega
      · rw [e] at hcp; simp at hcp; omega
      · rw [e] at hcp; simp at hcp; omega
      · rw [e]; simp
    obtain ⟨h0, h1⟩ := hp _ hm
    exact ⟨n.c.toNat, by omega, by omega, (hr n.c.toNat (by omega)).1⟩
  clear hc3 hcp HPC hr hp
  generalize mv P n = u at HV ⊢
  generalize P n.a.toNat = xa at HV HA
  generalize P n.b.toNat = xb at HV HB
  generalize P n.c.toNat = xc at HV HD
  obtain ⟨op, m, k, a, b, c⟩ := n
  dsimp only at *
  rcases HC.out with hc | hc | hc | hc
  · have HK : Hid (cnt op = _) := hc
    clear HA HB HD
    go_enter Tryz.func104, Tryz.ntmps104
    go_wp2_with (go_at_call 108; refine (iCount _ _).mono ?_; rintro e w' ⟨rfl, rfl⟩; rw [hc])
    refine bodyPost_ret (v := .agg #[.int .i64 u.op, .int .i64 u.w, .int .i64 u.k, .int .i64 u.a, .int .i64 u.b, .int .i64 u.c]) ?_ rfl ⟨rfl, ?_⟩
    · have h9 := HV.out
      rw [HK.out] at h9
      simp at h9
      subst h9
      simp [results, Tryz.results104, go_sem]
    · exact ((Below.refl _ _).alloc (Nat.le_refl _) _).alloc (by simp) _
  · have HK : Hid (cnt op = _) := hc
    obtain ⟨ja, rfl, hja, pa⟩ := HA.out (by omega)
    have hz1 : (ja : Int) < (len : Int) := by omega
    have hn0 : gp < w.heap.size := lt_of_cell (p := ⟨gp, ja, none⟩) pa
    have hn1 : gp < w.heap.size + 1 := by omega
    clear HA HB HD
    go_enter Tryz.func104, Tryz.ntmps104
    go_wp2_with (go_at_call 108; refine (iCount _ _).mono ?_; rintro e w' ⟨rfl, rfl⟩; rw [hc])
    refine bodyPost_ret (v := .agg #[.int .i64 u.op, .int .i64 u.w, .int .i64 u.k, .int .i64 u.a, .int .i64 u.b, .int .i64 u.c]) ?_ rfl ⟨rfl, ?_⟩
    · have h9 := HV.out
      rw [HK.out] at h9
      simp at h9
      subst h9
      simp [results, Tryz.results104, go_sem]
    · exact ((Below.refl _ _).alloc (Nat.le_refl _) _).alloc (by simp) _
  · have HK : Hid (cnt op = _) := hc
    obtain ⟨ja, rfl, hja, pa⟩ := HA.out (by omega)
    obtain ⟨jb, rfl, hjb, pb⟩ := HB.out (by omega)
    have hz1 : (ja : Int) < (len : Int) := by omega
    have hz2 : (jb : Int) < (len : Int) := by omega
    have hn0 : gp < w.heap.size := lt_of_cell (p := ⟨gp, ja, none⟩) pa
    have hn1 : gp < w.heap.size + 1 := by omega
    clear HA HB HD
    go_enter Tryz.func104, Tryz.ntmps104
    go_wp2_with (go_at_call 108; refine (iCount _ _).mono ?_; rintro e w' ⟨rfl, rfl⟩; rw [hc])
    refine bodyPost_ret (v := .agg #[.int .i64 u.op, .int .i64 u.w, .int .i64 u.k, .int .i64 u.a, .int .i64 u.b, .int .i64 u.c]) ?_ rfl ⟨rfl, ?_⟩
    · have h9 := HV.out
      rw [HK.out] at h9
      simp at h9
      subst h9
      simp [results, Tryz.results104, go_sem]
    · exact ((Below.refl _ _).alloc (Nat.le_refl _) _).alloc (by simp) _
  · have HK : Hid (cnt op = _) := hc
    obtain ⟨ja, rfl, hja, pa⟩ := HA.out (by omega)
    obtain ⟨jb, rfl, hjb, pb⟩ := HB.out (by omega)
    obtain ⟨jc, rfl, hjc, pc⟩ := HD.out (by omega)
    have hz1 : (ja : Int) < (len : Int) := by omega
    have hz2 : (jb : Int) < (len : Int) := by omega
    have hz3 : (jc : Int) < (len : Int) := by omega
    have hn0 : gp < w.heap.size := lt_of_cell (p := ⟨gp, ja, none⟩) pa
    have hn1 : gp < w.heap.size + 1 := by omega
    clear HA HB HD
    go_enter Tryz.func104, Tryz.ntmps104
    go_wp2_with (go_at_call 108; refine (iCount _ _).mono ?_; rintro e w' ⟨rfl, rfl⟩; rw [hc])
    refine bodyPost_ret (v := .agg #[.int .i64 u.op, .int .i64 u.w, .int .i64 u.k, .int .i64 u.a, .int .i64 u.b, .int .i64 u.c]) ?_ rfl ⟨rfl, ?_⟩
    · have h9 := HV.out
      rw [HK.out] at h9
      simp at h9
      subst h9
      simp [results, Tryz.results104, go_sem]
    · exact ((Below.refl _ _).alloc (Nat.le_refl _) _).alloc (by simp) _

end Go.Proofs.YtdmogjhabladcaaGreat.Pg10

/- The walk of the program's Prune. -/
namespace Go.Proofs.YtdmogjhabladcaaGreat.Pg11
open Go.RowKit
open Nd0 Nd3 Tm0 Tm1 Tm2 Tm3 Tm8 Ap2 Pg1 Pg2 Rw0 Pg10
open Lx1 (ITermOk)
open Lx2 (IReached)
set_option linter.unusedVariables false

theorem infoInt : (Tryz.prog.info? 3).map (fun i => (i.zero, i.size, i.bytes)) = some (some (.int .i64 0), 1, 8) := by kernel_rfl
/-- n noughts. -/
def noughts (n : Nat) : Array Value := madeCells #[.int .i64 0] (n * 1)
theorem noughts_get (n j : Nat) (h : j < n) : (noughts n)[j]? = some (.int .i64 0) := by
  simp only [noughts, madeCells, Array.getElem?_map, Array.getElem?_range]
  rw [if_pos (by omega)]
  simp only [Option.map_some, List.size_toArray, List.length_cons, List.length_nil, Nat.zero_add, Nat.mod_one]
  rfl
theorem makeInts (n : Nat) (hn : n ≤ 1048576) (w : World) :
    (Instr.makeSlice 25 (.int .i64 (n : Int)) (.int .i64 (n : Int))).run Tryz.prog w = .ok (.slice (some ⟨w.heap.size, 0, none⟩) n n) (w.alloc (.cells (noughts n) 3)) := by
  obtain ⟨i, hi, hzz⟩ := Option.map_eq_some_iff.1 infoInt
  simp only [Prod.mk.injEq] at hzz
  obtain ⟨hz, hs, hb⟩ := hzz
  have h := run_make (P := Tryz.prog) w 25 3 i _ Tryz.underlying25 hi hz .i64 .i64 n n (by omega) (Int.le_refl _) (by rw [hb]; omega) (by omega)
  rw [hs] at h
  simpa [noughts, Value.cells] using h

theorem own_room {w : World} {B n c : Nat} {a : Option Addr} {L : List Nd} (h : Own w B (.slice a n c) L) : L.length ≤ c := by
  obtain ⟨h1, h2⟩ := h
  rcases h2 with ⟨h0, h9⟩ | ⟨g', cap, cur, he, hb, hg, hn, rest⟩
  · cases h0; omega
  · cases he; exact hn

set_option maxRecDepth 100000 in
set_option maxHeartbeats 4000000 in
theorem iPrune (hTO : ITermOk) (hRE : IReached) (w : World) (a : Option Addr) (l : List Nd) (c : Nat) (hN : Nodes w a l) (hcap : l.length ≤ c) (hlen : l.length ≤ 1048576) :
    Calls Tryz.prog 105 #[.slice a l.length c] w fun e w' => (∃ a' c', e = .returned (.slice a' (pruneL l).length c') ∧ WNodes w' w.heap.size a' (pruneL l) ∧ (pruneL l).length ≤ c') ∧ Below w.heap.size w w' := by
  have HN : Hid (Nodes w a l) := hN
  have HTO : Hid ITermOk := hTO
  have HRE : Hid IReached := hRE
  have HCAP : Hid (l.length ≤ c) := hcap
  clear hcap hN hTO hRE
  go_enter Tryz.func105, Tryz.ntmps105
  go_wp2_with fail
  refine (HTO.out _ a l c (HN.out.below ((Below.refl _ _).alloc (Nat.le_refl _) _)) HCAP.out hlen).mono ?_
  rintro e w1 ⟨rfl, hb1⟩
  have HB1 : Hid (Below w.heap.size w w1) := ((Below.refl _ _).alloc (Nat.le_refl _) _).trans (hb1.mono (by simp))
  have HL1 : Hid (Own w1 w.heap.size (.slice (some ⟨w.heap.size, 0, none⟩) 0 0) []) := (Own.lit w _ (Nat.le_refl _)).kept (S := fun _ => False) (Kept.ofBelow hb1) (fun _ _ h => h)
  clear hb1
  cases hT : termOk l
  · have HE : Hid (pruneL l = []) := by
      show _ = _
      unfold pruneL; rw [hT]; rfl
    go_wp2
    go_ret
    rw [HE.out]
    exact ⟨⟨_, _, rfl, ⟨Nat.zero_le _, .inl rfl⟩, Nat.zero_le _⟩, HB1.out⟩
  · have HT : Hid (termOk l = true) := hT
    obtain ⟨hl1, hl2⟩ := term_len hT
    clear hT
    have hmk := makeInts l.length hlen
    go_wp2_with fail
    clear hmk
    have hAl : Below w1.heap.size w1 (w1.alloc (.cells (noughts l.length) 3)) := (Below.refl _ _).alloc (Nat.le_refl _) _
    have HRW0 : Hid (Row (w1.alloc (.cells (noughts l.length) 3)) w1.heap.size l.length (fun i => .int .i64 ((fun _ => 0) i))) := Row.new _ _ _ _ _ (fun i hi => noughts_get _ _ hi)
    refine (HRE.out _ a l c ((HN.out.below HB1.out).below hAl) HCAP.out hlen).mono ?_
    rintro e w2 ⟨⟨a2, c2, rfl, hi2⟩, hb2⟩
    have hszA : (w1.alloc (.cells (noughts l.length) 3)).heap.size = w1.heap.size + 1 := by simp
    have HR2 : Hid (Row w2 w1.heap.size l.length (fun i => .int .i64 ((fun _ => 0) i))) := HRW0.out.below hb2
    have HRE2 : Hid (reachedL l = reachTo l l.length) := by
      show _ = _
      unfold reachedL; rw [HT.out]; rfl
    have HI2 : Hid (IntsIn w2 (w1.heap.size + 1) w2.heap.size a2 (reachTo l l.length)) := by
      have h9 := hi2.within
      rw [hszA, HRE2.out] at h9
      exact h9
    have HB2 : Hid (Below w.heap.size w w2) := (HB1.out.trans (hAl.mono HB1.out.size)).trans (hb2.mono (by have := HB1.out.size; omega))
    have hs2 : w1.heap.size + 1 ≤ w2.heap.size := by rw [← hszA]; exact hb2.size
    have HL2 : Hid (Own w2 w.heap.size (.slice (some ⟨w.heap.size, 0, none⟩) 0 0) []) := (HL1.out.kept (S := fun _ => False) (Kept.ofBelow hAl) (fun _ _ h => h)).kept (S := fun _ => False) (Kept.ofBelow hb2) (fun _ _ h => h)
    have HW1 : Hid (w.heap.size < w1.heap.size) := (HL1.out.lt w.heap.size rfl).2
    have HTR : Hid (termOk l = true) := HT.out
    clear hi2 hb2 hAl HRW0 hszA
    rw [HRE2.out]
    obtain ⟨gp, hgp⟩ : ∃ gp : Nat, gp = w1.heap.size := ⟨_, rfl⟩
    rw [← hgp] at HR2 HI2 HW1 hs2 ⊢
    clear hgp
    have hRl := reachTo_length l l.length
    go_wp2_with fail
    go_loopw [3, 18] (fun v q wr => ∃ j : Nat, j ≤ (reachTo l l.length).length ∧ q = .int .i64 j ∧ Own wr w.heap.size v (((reachTo l l.length).take j).map fun p => remap l (nth l p.toNat)) ∧ Below w.heap.size w wr ∧ (∃ P : Nat → Int, Row wr gp l.length (fun i => .int .i64 (P i)) ∧ ∀ p, p < l.length → flag (reachL l) p = true → (reachTo l p).length < j → P p = ((reachTo l p).length : Int)) ∧ IntsIn wr (gp + 1) w2.heap.size a2 (reachTo l l.length) ∧ w2.heap.size ≤ wr.heap.size ∧ ∀ x, v.ownBlock = some x → x < gp ∨ w2.heap.size ≤ x) (fun _ q _ => (reachTo l l.length).length - (intOf q).toNat)
    case atStart => exact ⟨0, Nat.zero_le _, rfl, HL2.out, HB2.out, ⟨_, HR2.out, fun p _ _ h => by omega⟩, HI2.out, Nat.le_refl _, fun x hx => by cases hx; exact .inl HW1.out⟩
    case round =>
      clear HL2 HB2 HR2 HI2
      obtain ⟨j, hj, rfl, ho, hb, ⟨P, hr, hP⟩, hi, hsz, hne⟩ := hrel
      have HB : Hid (Below w.heap.size w wr) := hb
      have HR : Hid (Row wr gp l.length (fun i => .int .i64 (P i))) := hr
      have HP : Hid (∀ p, p < l.length → flag (reachL l) p = true → (reachTo l p).length < j → P p = ((reachTo l p).length : Int)) := hP
      have HI : Hid (IntsIn wr (gp + 1) w2.heap.size a2 (reachTo l l.length)) := hi
      have hBs : w.heap.size ≤ wr.heap.size := hb.size
      clear hb hr hP hi
      obtain ⟨ao, co, rfl, hwn⟩ := ho.form
      have HO : Hid (Own wr w.heap.size (.slice ao (((reachTo l l.length).take j).map fun p => remap l (nth l p.toNat)).length co) (((reachTo l l.length).take j).map fun p => remap l (nth l p.toNat))) := ho
      have HNE : Hid (∀ x, (Value.slice ao (((reachTo l l.length).take j).map fun p => remap l (nth l p.toNat)).length co).ownBlock = some x → x < gp ∨ w2.heap.size ≤ x) := hne
      have HLJ : Hid ((((reachTo l l.length).take j).map fun p => remap l (nth l p.toNat)).length = j) := by
        show _ = _
        rw [List.length_map, List.length_take]; omega
      clear ho hne
      by_cases hlt : j < (reachTo l l.length).length
      · have hjz : (j : Int) < ((reachTo l l.length).length : Int) := by omega
        clear hwn
        obtain ⟨x, hx, hxl, hxf, hxj⟩ := reach_at l l.length j hlt
        have HTK : Hid ((((reachTo l l.length).take (j + 1)).map fun p => remap l (nth l p.toNat)) = (((reachTo l l.length).take j).map fun p => remap l (nth l p.toNat)) ++ [remap l (nth l x)]) := by
          show _ = _
          rw [List.take_succ_eq_append_getElem hlt, List.map_append, hx]; simp
        generalize hL : (((reachTo l l.length).take j).map fun p => remap l (nth l p.toNat)) = L at HO HNE HLJ HTK
        clear hL
        rcases HI.out.2 with h0 | ⟨pb, po, rfl, hpB, hpU, hpc⟩
        · omega
        have q0 := (hpc j hlt).1
        rw [hx] at q0
        clear hpc hx
        obtain ⟨c1, c3⟩ := HR.out x hxl
        have hxz : (x : Int) < (l.length : Int) := by omega
        have hgl : gp < wr.heap.size := by omega
        have HXF : Hid (flag (reachL l) x = true) := hxf
        have HXJ : Hid ((reachTo l x).length = j) := hxj
        clear hxf hxj
        have HRS : Hid (Row (wr.setCell ⟨gp, x, none⟩ (.int .i64 (L.length : Int))) gp l.length (fun i => .int .i64 ((fun i => if i = x then (L.length : Int) else P i) i))) := by
          refine (HR.out.set hxl _).congr (fun i hi => ?_)
          by_cases e : i = x
          · simp [e]
          · simp [e]
        have hKS : Kept (fun b => b = gp) wr (wr.setCell ⟨gp, x, none⟩ (.int .i64 (L.length : Int))) := (Kept.refl (fun b => b = gp) wr).setCell (p := ⟨gp, x, none⟩) rfl _
        have HOS : Hid (Own (wr.setCell ⟨gp, x, none⟩ (.int .i64 (L.length : Int))) w.heap.size (.slice ao L.length co) L) := HO.out.kept hKS (fun b hb e => by have := HNE.out b hb; omega)
        have HIS : Hid (IntsIn (wr.setCell ⟨gp, x, none⟩ (.int .i64 (L.length : Int))) (gp + 1) w2.heap.size (some ⟨pb, po, none⟩) (reachTo l l.length)) := HI.out.kept hKS (fun b h1 h2 e => by omega)
        have HBS : Hid (Below w.heap.size w (wr.setCell ⟨gp, x, none⟩ (.int .i64 (L.length : Int)))) := HB.out.trans (hKS.below (fun b (hb : b = gp) => by have := HW1.out; omega) hBs)
        have hss : (wr.setCell ⟨gp, x, none⟩ (.int .i64 (L.length : Int))).heap.size = wr.heap.size := by simp [World.setCell]
        have HSS : Hid ((wr.setCell ⟨gp, x, none⟩ (.int .i64 (L.length : Int))).heap.size = wr.heap.size) := hss
        clear hss hKS
        rcases (HN.out.below HBS.out).2 with h0 | ⟨xb, xo, rfl, hc⟩
        · omega
        obtain ⟨p0, p1, p2, p3, p4, p5⟩ := hc x hxl
        rw [nth_get hxl] at p0 p1 p2 p3 p4 p5
        clear hc
        have HPR : Hid (∀ p ∈ parts (nth l x), 0 ≤ p ∧ p < (l.length : Int)) := by
          show ∀ _, _
          intro p hp
          have := down_of HTR.out x hxl p hp
          omega
        have HMV : Hid (mv (fun i => if i = x then (L.length : Int) else P i) (nth l x) = remap l (nth l x)) := by
          show _ = _
          have hq : ∀ p ∈ parts (nth l x), (if p.toNat = x then (L.length : Int) else P p.toNat) = plc l p := by
            intro p hp
            have hd := down_of HTR.out x hxl p hp
            have hf := reach_closed (down_of HTR.out) hxl HXF.out hp
            rw [if_neg (by omega)]
            have h1 := reachTo_lt l (a := p.toNat) (b := x) (by omega) hf
            rw [HXJ.out] at h1
            exact HP.out p.toNat (by omega) hf h1
          have hcp := cnt_parts (nth l x)
          generalize nth l x = n at hq hcp
          unfold mv remap
          rw [hcp]
          have ha : 0 < cnt n.op → n.a ∈ parts n := by
            intro h
            rcases parts_cases n with e | e | e | e
            · rw [e] at hcp; simp at hcp; omega
            · rw [e]; simp
            · rw [e]; simp
            · rw [e]; simp
          have hb : 1 < cnt n.op → n.b ∈ parts n := by
            intro h
            rcases parts_cases n with e | e | e | e
            · rw [e] at hcp; simp at hcp; omega
            · rw [e] at hcp; simp at hcp; omega
            · rw [e]; simp
            · rw [e]; simp
          have hc : 2 < cnt n.op → n.c ∈ parts n := by
            intro h
            rcases parts_cases n with e | e | e | e
            · rw [e] at hcp; simp at hcp; omega
            · rw [e] at hcp; simp at hcp; omega
            · rw [e] at hcp; simp at hcp; omega
            · rw [e]; simp
          congr 1
          · by_cases h : 0 < cnt n.op
            · rw [if_pos h, if_pos h]; exact hq _ (ha h)
            · rw [if_neg h, if_neg h]
          · by_cases h : 1 < cnt n.op
            · rw [if_pos h, if_pos h]; exact hq _ (hb h)
            · rw [if_neg h, if_neg h]
          · by_cases h : 2 < cnt n.op
            · rw [if_pos h, if_pos h]; exact hq _ (hc h)
            · rw [if_neg h, if_neg h]
        go_wp2_with fail
        generalize wr.setCell ⟨gp, x, none⟩ (.int .i64 (L.length : Int)) = ws at HRS HOS HIS HBS HSS p0 p1 p2 p3 p4 p5 ⊢
        refine (iMoved (nth l x) _ gp l.length l.length _ HRS.out HPR.out hl2).mono ?_
        rintro e w4 ⟨rfl, hb4⟩
        rw [HMV.out]
        have HO4 : Hid (Own w4 w.heap.size (.slice ao L.length co) L) := HOS.out.kept (S := fun _ => False) (Kept.ofBelow hb4) (fun _ _ h => h)
        have HI4 : Hid (IntsIn w4 (gp + 1) w2.heap.size (some ⟨pb, po, none⟩) (reachTo l l.length)) := HIS.out.kept (S := fun _ => False) (Kept.ofBelow hb4) (fun _ _ _ h => h)
        have HR4 : Hid (Row w4 gp l.length (fun i => .int .i64 ((fun i => if i = x then (L.length : Int) else P i) i))) := HRS.out.below hb4
        have HB4 : Hid (Below w.heap.size w w4) := HBS.out.trans (hb4.mono HBS.out.size)
        have hs4 : wr.heap.size ≤ w4.heap.size := by have := hb4.size; have := HSS.out; omega
        have hB4 : w.heap.size ≤ w4.heap.size := by omega
        have hLl : L.length ≤ 1048576 := by have := HLJ.out; omega
        clear hb4 p0 p1 p2 p3 p4 p5 c1 c3
        generalize hy : remap l (nth l x) = y at HTK
        clear hy HMV
        go_wp2_with (at_builtin; go_must (refine app_node _ rfl _ _ rfl w.heap.size (.slice ao L.length co) L y rfl _ rfl rfl HO4.out hB4 hLl ?_; intro g5 cp5 w5 ho5 hk5 hg5))
        have HO5 : Hid (Own w5 w.heap.size (.slice (some ⟨g5, 0, none⟩) (L.length + 1) cp5) (L ++ [y])) := ho5
        have HK5 : Hid (Kept (fun k => (Value.slice ao L.length co).ownBlock = some k) w4 w5) := hk5
        have HG5 : Hid ((Value.slice ao L.length co).ownBlock = some g5 ∨ w4.heap.size ≤ g5) := hg5
        clear ho5 hk5 hg5
        go_wp2
        go_roundw
        case rel =>
          refine ⟨j + 1, by omega, by go_num, by rw [HTK.out]; exact HO5.out, HB4.out.trans (HK5.out.below (fun b hb => (HO4.out.lt b hb).1) hB4), ⟨_, HR4.out.kept HK5.out (fun e => by have := HNE.out gp e; omega), fun p hp hf hpj => ?_⟩, HI4.out.kept HK5.out (fun b h1 h2 e => by have := HNE.out b e; omega), by have := HK5.out.size; omega, fun b hb => ?_⟩
          · by_cases e : p = x
            · subst e
              rw [if_pos rfl, HLJ.out, HXJ.out]
            · rw [if_neg e]
              refine HP.out p hp hf ?_
              rcases Nat.lt_or_ge (reachTo l p).length j with h | h
              · exact h
              · exact absurd (reachTo_inj l hf HXF.out (by rw [HXJ.out]; omega)) e
          · cases hb
            rcases HG5.out with e | e
            · exact HNE.out _ e
            · exact .inr (by show _ ≤ g5; omega)
        case measure => simp [intOf]; omega
      · have e2 : j = (reachTo l l.length).length := by omega
        have HPE : Hid (pruneL l = ((reachTo l l.length).take j).map fun p => remap l (nth l p.toNat)) := by
          show _ = _
          unfold pruneL; rw [HTR.out, if_pos rfl, prune_map, List.take_of_length_le (by omega)]
        have HCO : Hid ((((reachTo l l.length).take j).map fun p => remap l (nth l p.toNat)).length ≤ co) := own_room HO.out
        have HW : Hid (WNodes wr w.heap.size ao (((reachTo l l.length).take j).map fun p => remap l (nth l p.toNat))) := hwn
        have hjz : ¬ (j : Int) < ((reachTo l l.length).length : Int) := by omega
        clear hwn HO HNE HLJ e2
        generalize (((reachTo l l.length).take j).map fun p => remap l (nth l p.toNat)) = L at HPE HW HCO ⊢
        go_wp2
        go_ret
        rw [HPE.out]
        exact ⟨⟨ao, co, rfl, HW.out, HCO.out⟩, HB.out⟩

end Go.Proofs.YtdmogjhabladcaaGreat.Pg11
