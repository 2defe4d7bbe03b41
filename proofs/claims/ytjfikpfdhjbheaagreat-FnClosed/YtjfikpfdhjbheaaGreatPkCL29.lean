/- Small texts of mine, one behind the other. -/
import Derived.Deep.Upon
import Derived.Test.YtjfikpfdhjbheaaGreatRows
import Derived.Deep.AppendLies
import Derived.OwnWalk
import Derived.Laws.MakeOwn
import Derived.Test.YtjfikpfdhjbheaaGreatPkCL11
import Derived.Test.YtjfikpfdhjbheaaGreatPkCL1
import Derived.Test.YtjfikpfdhjbheaaGreatPkCL0
import Derived.Test.YtjfikpfdhjbheaaGreatPkCL18
import Derived.Test.YtjfikpfdhjbheaaGreatPkCL14
import Derived.Test.YtjfikpfdhjbheaaGreatPkCL17
/- Walks of the program's small tests of operators, of words, and of its Parts. -/
namespace Go.Proofs.YtjfikpfdhjbheaaGreat.Pg1
open Go.RowKit
open Nd0 Tm0 Tm5 Pl1 Ap0
open Ws1 (ret_int ret_bool)
set_option linter.unusedVariables false

def cnt (op : Int) : Nat := if op = 2 ∨ op = 17 ∨ op = 19 ∨ op = 20 then 1 else if 3 ≤ op ∧ op ≤ 16 then 2 else if op = 18 then 3 else 0
theorem cnt_parts (n : Nd) : (parts n).length = cnt n.op := by
  unfold parts cnt; split
  · rfl
  · split
    · rfl
    · split <;> rfl
theorem cnt_le (op : Int) : cnt op ≤ 3 := by unfold cnt; split; omega; split; omega; split <;> omega
def numbered (op : Int) : Bool := op == 0 || op == 1 || op == 17 || quant op

set_option maxHeartbeats 400000 in
theorem iWidthOk (m : Int) (w : World) :
    Calls Tryz.prog 84 #[.int .i64 m] w fun e w' => e = .returned (.bool (decide (1 ≤ m ∧ m ≤ 8))) ∧ w' = w := by
  by_cases h1 : 1 ≤ m <;> by_cases h2 : m ≤ 8
  all_goals
    go_enter Tryz.func84, Tryz.ntmps84
    go_wp2
    go_ret
    exact ⟨ret_bool (by simp <;> omega), rfl⟩

set_option maxHeartbeats 400000 in
theorem iWordOk (m a : Int) (w : World) :
    Calls Tryz.prog 91 #[.int .i64 m, .int .i64 a] w fun e w' => e = .returned (.bool (wok m a)) ∧ w' = w := by
  by_cases h : 1 ≤ m ∧ m ≤ 8
  · have hd : decide (1 ≤ m ∧ m ≤ 8) = true := by simpa using h
    by_cases ha : 0 ≤ a
    all_goals
      go_enter Tryz.func91, Tryz.ntmps91
      go_wp2_with (go_at_call 84; refine (iWidthOk _ _).mono ?_; rintro e w' ⟨rfl, rfl⟩)
      go_ret
      exact ⟨ret_bool (by rw [Bool.eq_iff_iff]; try rw [wrap_p2 _ (by omega)]
                          simp [wok]; omega), rfl⟩
  · have hd : decide (1 ≤ m ∧ m ≤ 8) = false := by simpa using h
    go_enter Tryz.func91, Tryz.ntmps91
    go_wp2_with (go_at_call 84; refine (iWidthOk _ _).mono ?_; rintro e w' ⟨rfl, rfl⟩)
    go_ret
    exact ⟨ret_bool (by unfold wok; symm; rw [decide_eq_false_iff_not]; omega), rfl⟩

set_option maxHeartbeats 400000 in
theorem iVarOk (m : Int) (w : World) :
    Calls Tryz.prog 116 #[.int .i64 m] w fun e w' => e = .returned (.bool (decide (0 ≤ m ∧ m ≤ 7))) ∧ w' = w := by
  by_cases h1 : 0 ≤ m <;> by_cases h2 : m < 8
  all_goals
    go_enter Tryz.func116, Tryz.ntmps116
    go_wp2
    go_ret
    exact ⟨ret_bool (by simp <;> omega), rfl⟩

set_option maxHeartbeats 400000 in
theorem iQuant (op : Int) (w : World) :
    Calls Tryz.prog 50 #[.int .i64 op] w fun e w' => e = .returned (.bool (quant op)) ∧ w' = w := by
  cases h1 : (op == 19) <;> cases h2 : (op == 20)
  all_goals
    go_enter Tryz.func50, Tryz.ntmps50
    go_wp2
    go_ret
    exact ⟨ret_bool (by unfold quant; rw [h1, h2]; rfl), rfl⟩

set_option maxHeartbeats 400000 in
theorem iOuter (op : Int) (w : World) :
    Calls Tryz.prog 113 #[.int .i64 op] w fun e w' => e = .returned (.bool (outer op)) ∧ w' = w := by
  cases h1 : (op == 2) <;> cases h2 : (op == 3) <;> cases h3 : (op == 4)
  all_goals
    go_enter Tryz.func113, Tryz.ntmps113
    go_wp2_with (go_at_call 50; refine (iQuant _ _).mono ?_; rintro e w' ⟨rfl, rfl⟩)
    go_ret
    exact ⟨ret_bool (by unfold outer; rw [h1, h2, h3]; rfl), rfl⟩

set_option maxHeartbeats 400000 in
theorem iNumbered (op : Int) (w : World) :
    Calls Tryz.prog 115 #[.int .i64 op] w fun e w' => e = .returned (.bool (numbered op)) ∧ w' = w := by
  cases h1 : (op == 0) <;> cases h2 : (op == 1) <;> cases h3 : (op == 17)
  all_goals
    go_enter Tryz.func115, Tryz.ntmps115
    go_wp2_with (go_at_call 50; refine (iQuant _ _).mono ?_; rintro e w' ⟨rfl, rfl⟩)
    go_ret
    exact ⟨ret_bool (by unfold numbered; rw [h1, h2, h3]; rfl), rfl⟩

set_option maxHeartbeats 1000000 in
theorem iCount (op : Int) (w : World) :
    Calls Tryz.prog 88 #[.int .i64 op] w fun e w' => e = .returned (.int .i64 (cnt op : Int)) ∧ w' = w := by
  have HC : Hid (∀ k : Nat, cnt op = k → (k : Int) = (cnt op : Int)) := fun k h => by rw [h]
  have q1 : (op == 2) = false → (op == 17) = false → quant op = false → ¬ (op = 2 ∨ op = 17 ∨ op = 19 ∨ op = 20) := by
    intro a b c; simp [quant] at a b c; omega
  have HQ : Hid ((op == 2) = false → (op == 17) = false → quant op = false → ¬ (op = 2 ∨ op = 17 ∨ op = 19 ∨ op = 20)) := q1
  have HR : Hid ((op == 2) = true ∨ (op == 17) = true ∨ quant op = true → (op = 2 ∨ op = 17 ∨ op = 19 ∨ op = 20)) := by
    show _ → _
    rintro (a | a | a)
    · simp at a; omega
    · simp at a; omega
    · simp [quant] at a; omega
  clear q1
  cases h1 : (op == 2)
  · cases h2 : (op == 17)
    · cases h3 : quant op
      · have HN := HQ.out h1 h2 h3
        have HN' : Hid (¬ (op = 2 ∨ op = 17 ∨ op = 19 ∨ op = 20)) := HN
        clear HN
        by_cases h4 : 3 ≤ op
        · by_cases h5 : op ≤ 16
          · have HE : Hid (cnt op = 2) := by
              show cnt op = 2
              unfold cnt; rw [if_neg HN'.out, if_pos ⟨h4, h5⟩]
            go_enter Tryz.func88, Tryz.ntmps88
            go_wp2_with (go_at_call 50; refine (iQuant _ _).mono ?_; rintro e w' ⟨rfl, rfl⟩)
            go_ret
            exact ⟨ret_int (HC.out 2 HE.out), rfl⟩
          · cases h6 : (op == 18)
            · have HE : Hid (cnt op = 0) := by
                show cnt op = 0
                unfold cnt; rw [if_neg HN'.out, if_neg (by omega), if_neg (by simpa using h6)]
              go_enter Tryz.func88, Tryz.ntmps88
              go_wp2_with (go_at_call 50; refine (iQuant _ _).mono ?_; rintro e w' ⟨rfl, rfl⟩)
              go_ret
              exact ⟨ret_int (HC.out 0 HE.out), rfl⟩
            · have HE : Hid (cnt op = 3) := by
                show cnt op = 3
                unfold cnt; rw [if_neg HN'.out, if_neg (by omega), if_pos (by simpa using h6)]
              go_enter Tryz.func88, Tryz.ntmps88
              go_wp2_with (go_at_call 50; refine (iQuant _ _).mono ?_; rintro e w' ⟨rfl, rfl⟩)
              go_ret
              exact ⟨ret_int (HC.out 3 HE.out), rfl⟩
        · have h6 : (op == 18) = false := by simp; omega
          have HE : Hid (cnt op = 0) := by
            show cnt op = 0
            unfold cnt; rw [if_neg HN'.out, if_neg (by omega), if_neg (by omega)]
          go_enter Tryz.func88, Tryz.ntmps88
          go_wp2_with (go_at_call 50; refine (iQuant _ _).mono ?_; rintro e w' ⟨rfl, rfl⟩)
          go_ret
          exact ⟨ret_int (HC.out 0 HE.out), rfl⟩
      · have HE : Hid (cnt op = 1) := by
          show cnt op = 1
          unfold cnt; rw [if_pos (HR.out (.inr (.inr h3)))]
        go_enter Tryz.func88, Tryz.ntmps88
        go_wp2_with (go_at_call 50; refine (iQuant _ _).mono ?_; rintro e w' ⟨rfl, rfl⟩)
        go_ret
        exact ⟨ret_int (HC.out 1 HE.out), rfl⟩
    · have HE : Hid (cnt op = 1) := by
        show cnt op = 1
        unfold cnt; rw [if_pos (HR.out (.inr (.inl h2)))]
      go_enter Tryz.func88, Tryz.ntmps88
      go_wp2_with (go_at_call 50; refine (iQuant _ _).mono ?_; rintro e w' ⟨rfl, rfl⟩)
      go_ret
      exact ⟨ret_int (HC.out 1 HE.out), rfl⟩
  · have HE : Hid (cnt op = 1) := by
      show cnt op = 1
      unfold cnt; rw [if_pos (HR.out (.inl h1))]
    go_enter Tryz.func88, Tryz.ntmps88
    go_wp2_with (go_at_call 50; refine (iQuant _ _).mono ?_; rintro e w' ⟨rfl, rfl⟩)
    go_ret
    exact ⟨ret_int (HC.out 1 HE.out), rfl⟩

end Go.Proofs.YtjfikpfdhjbheaaGreat.Pg1

/- The walk of the program's Parts. -/
namespace Go.Proofs.YtjfikpfdhjbheaaGreat.Pg2
open Go.RowKit
open Nd0 Tm0 Tm5 Pl1 Ap0 Pg1
open Ws1 (ret_int ret_bool)
set_option linter.unusedVariables false

theorem app_ints {ops : Array Oper} {rest : List Oper} {o : Oper} {a : Act} {Q : Exit → Act → World → Prop} (W : World) (hgd : o.guard = none) (s x : Operand)
    (ho : o.op = .call { callee := .builtin .append, args := #[s, x], argTypes := #[30, 30] })
    (B : Nat) (v : Value) (l ys : List Int) (g c : Nat) (hs : a.eval s = v) (hx : a.eval x = .slice (some ⟨g, 0, none⟩) ys.length c)
    (hy : ∀ j (h : j < ys.length), W.cell? ⟨g, j, none⟩ = some (.int .i64 ys[j])) (hp : 0 < ys.length)
    (hown : Ows W B v l) (hB : B ≤ W.heap.size) (hlen : l.length + ys.length ≤ 1048577)
    (h : ∀ g cap w', Ows w' B (.slice (some ⟨g, 0, none⟩) (l.length + ys.length) cap) (l ++ ys) → Kept (fun k => v.ownBlock = some k) W w' → wpList Tryz.prog ops Q rest (a.put o.dst (.slice (some ⟨g, 0, none⟩) (l.length + ys.length) cap)) w') :
    wpList Tryz.prog ops Q (o :: rest) a W := by
  obtain ⟨i, hi, hzz⟩ := Option.map_eq_some_iff.1 infoInt
  simp only [Prod.mk.injEq] at hzz
  obtain ⟨hz, hsz, hb⟩ := hzz
  refine wpList_append_lies W hgd s x 30 ho B 3 i (.int .i64 0) 1 8 Tryz.underlying30 hi hz hsz hb rfl (by omega) v l.length (l.map fun x => .int .i64 x) hs hown
    ⟨g, 0, none⟩ ys.length c (ys.map fun x => .int .i64 x) hx (by simp) ?_ ?_ hp (by unfold maxLen; omega) (by omega) hB _ rfl ?_
  · intro j u hu
    have hadd : (⟨g, 0, none⟩ : Addr).add j = ⟨g, j, none⟩ := by unfold Addr.add; split <;> simp_all
    rw [hadd]
    rw [List.getElem?_map] at hu
    obtain ⟨y, hy1, rfl⟩ := Option.map_eq_some_iff.1 hu
    obtain ⟨hj, rfl⟩ := List.getElem?_eq_some_iff.1 hy1
    exact hy j hj
  · intro u hu
    obtain ⟨y, _, rfl⟩ := List.mem_map.1 hu
    rfl
  · intro g cap w' h1 h2 h3 h4
    refine h g cap w' ?_ ?_
    · unfold Ows
      simpa using h1
    · exact ⟨h2.os, h2.tape, h2.output, h2.size, fun k hk hn => h2.block k hk (fun e => hn e.symm)⟩

theorem ows_lit (W : World) (B g : Nat) (hg : g = W.heap.size) (hB : B ≤ g) : Ows (W.alloc (.cells #[] 3)) B (.slice (some ⟨g, 0, none⟩) 0 0) [] := by
  subst hg; exact Ows.lit W B hB

theorem get3 (x y z : Int) (W : World) (g t : Nat) (k : Nat) (hk : k ≤ 3) (hg : g = W.heap.size) (j : Nat) (h : j < (([x, y, z] : List Int).take k).length) (o : Obj) :
    ((W.alloc (.cells #[.int .i64 x, .int .i64 y, .int .i64 z] t)).alloc o).cell? ⟨g, j, none⟩ = some (.int .i64 (([x, y, z] : List Int).take k)[j]) := by
  subst hg
  rw [World.cell?_alloc_old _ _ _ (by simp), World.cell?_alloc_new]
  have h3 : j < 3 := by simp at h; omega
  rcases j with _ | _ | _ | j
  · simp
  · simp
  · simp
  · omega

set_option maxHeartbeats 1000000 in
theorem iParts (n : Nd) (w : World) :
    Calls Tryz.prog 53 #[.agg #[.int .i64 n.op, .int .i64 n.w, .int .i64 n.k, .int .i64 n.a, .int .i64 n.b, .int .i64 n.c]] w fun e w' => (∃ a c, e = .returned (.slice a (parts n).length c) ∧ WInts w' w.heap.size a (parts n)) ∧ Below w.heap.size w w' := by
  have HP : Hid (parts n = ([n.a, n.b, n.c] : List Int).take (cnt n.op)) := by
    show parts n = _
    unfold parts cnt; split
    · rfl
    · split
      · rfl
      · split <;> rfl
  have hc3 := cnt_le n.op
  by_cases h1 : cnt n.op = 0
  · go_enter Tryz.func53, Tryz.ntmps53
    go_wp2_with (go_at_call 88; refine (iCount _ _).mono ?_; rintro e w' ⟨rfl, rfl⟩; rw [h1])
    go_ret
    rw [HP.out, h1]
    exact ⟨⟨_, _, rfl, Nat.zero_le _, .inl rfl⟩, (((Below.refl _ _).alloc (Nat.le_refl _) _).alloc (by simp) _).alloc (by simp; omega) _⟩
  · obtain ⟨l3, hl3⟩ : ∃ l3 : List Int, l3 = ([n.a, n.b, n.c] : List Int).take (cnt n.op) := ⟨_, rfl⟩
    have HL3 : Hid (l3 = ([n.a, n.b, n.c] : List Int).take (cnt n.op)) := hl3
    have hlen : l3.length = cnt n.op := by rw [hl3, List.length_take]; simp; omega
    have HLN : Hid (l3.length = cnt n.op) := hlen
    have hcz : (cnt n.op : Int) ≤ 3 := by omega
    clear hl3 hlen
    go_enter Tryz.func53, Tryz.ntmps53
    go_wp2_with (first | (go_at_call 88; refine (iCount _ _).mono ?_; rintro e w' ⟨rfl, rfl⟩) | (at_builtin; go_must (refine app_ints _ rfl _ _ rfl w.heap.size (.slice (some ⟨w.heap.size + 1 + 1, 0, none⟩) 0 0) [] l3 (w.heap.size + 1) 3 rfl (by rw [HLN.out]; rfl) (fun j h => by have h9 := HL3.out; subst h9; exact get3 _ _ _ _ _ _ _ hc3 (by simp) _ h _) (by rw [HLN.out]; omega) (ows_lit _ _ _ (by simp) (by omega)) (by simp; omega) (by rw [HLN.out]; simp; omega) ?_; intro g cp w3 ho3 hk3)))
    have HO3 : Hid (Ows w3 w.heap.size (.slice (some ⟨g, 0, none⟩) (([] : List Int).length + l3.length) cp) ([] ++ l3)) := ho3
    have HK3 := hk3.below (B := w.heap.size) (fun k hk => by cases hk; show w.heap.size ≤ w.heap.size + 1 + 1; omega) (by simp; omega)
    have HB3 : Hid (Below w.heap.size w w3) := ((((Below.refl _ _).alloc (Nat.le_refl _) _).alloc (by simp) _).alloc (by simp; omega) _).trans HK3
    clear ho3 hk3 HK3
    go_wp2
    go_ret
    obtain ⟨a9, c9, hv9, hw9⟩ := HO3.out.form
    simp only [List.nil_append, List.length_nil, Nat.zero_add] at hv9 hw9
    rw [HP.out, ← HL3.out]
    cases hv9
    refine ⟨⟨some ⟨g, 0, none⟩, cp, ?_, hw9⟩, HB3.out⟩
    simp

end Go.Proofs.YtjfikpfdhjbheaaGreat.Pg2

/- Lists of arrays of eight numbers in memory: read, written, appended to, made. Written by tools/mkar.py. -/
namespace Go.Proofs.YtjfikpfdhjbheaaGreat.Ar0
open Go.RowKit
open Nd0
set_option linter.unusedVariables false

abbrev Ar := Nat → Int
def Ar.nil : Ar := fun _ => 0
def Ar.cells (n : Ar) : List Value := [.int .i64 (n 0), .int .i64 (n 1), .int .i64 (n 2), .int .i64 (n 3), .int .i64 (n 4), .int .i64 (n 5), .int .i64 (n 6), .int .i64 (n 7)]
abbrev av (n : Ar) : Value := .agg #[.int .i64 (n 0), .int .i64 (n 1), .int .i64 (n 2), .int .i64 (n 3), .int .i64 (n 4), .int .i64 (n 5), .int .i64 (n 6), .int .i64 (n 7)]
structure ArAt (w : World) (b p : Nat) (n : Ar) : Prop where
  c0 : w.cell? ⟨b, p, none⟩ = some (.int .i64 (n 0))
  c1 : w.cell? ⟨b, p + 1, none⟩ = some (.int .i64 (n 1))
  c2 : w.cell? ⟨b, p + 2, none⟩ = some (.int .i64 (n 2))
  c3 : w.cell? ⟨b, p + 3, none⟩ = some (.int .i64 (n 3))
  c4 : w.cell? ⟨b, p + 4, none⟩ = some (.int .i64 (n 4))
  c5 : w.cell? ⟨b, p + 5, none⟩ = some (.int .i64 (n 5))
  c6 : w.cell? ⟨b, p + 6, none⟩ = some (.int .i64 (n 6))
  c7 : w.cell? ⟨b, p + 7, none⟩ = some (.int .i64 (n 7))
theorem ArAt.at {w : World} {b p : Nat} {n : Ar} (h : ArAt w b p n) {v : Nat} (hv : v < 8) : w.cell? ⟨b, p + v, none⟩ = some (.int .i64 (n v)) := by
  obtain ⟨c0, c1, c2, c3, c4, c5, c6, c7⟩ := h
  rcases (show v = 0 ∨ v = 1 ∨ v = 2 ∨ v = 3 ∨ v = 4 ∨ v = 5 ∨ v = 6 ∨ v = 7 by omega) with rfl | rfl | rfl | rfl | rfl | rfl | rfl | rfl
  · exact c0
  · exact c1
  · exact c2
  · exact c3
  · exact c4
  · exact c5
  · exact c6
  · exact c7
theorem ArAt.of {w : World} {b p : Nat} {n : Ar} (h : ∀ v, v < 8 → w.cell? ⟨b, p + v, none⟩ = some (.int .i64 (n v))) : ArAt w b p n :=
  ⟨h 0 (by omega), h 1 (by omega), h 2 (by omega), h 3 (by omega), h 4 (by omega), h 5 (by omega), h 6 (by omega), h 7 (by omega)⟩
theorem ArAt.lt {w : World} {b p : Nat} {n : Ar} (h : ArAt w b p n) : b < w.heap.size := lt_of_cell (p := ⟨b, p, none⟩) h.c0
theorem ArAt.kept {w w' : World} {b p : Nat} {n : Ar} (h : ArAt w b p n) {S : Nat → Prop} (k : Kept S w w') (hs : ¬ S b) : ArAt w' b p n :=
  ArAt.of fun v hv => by rw [k.cell (p := ⟨b, p + v, none⟩) h.lt hs]; exact h.at hv
theorem ArAt.below {w w' : World} {b p : Nat} {n : Ar} (h : ArAt w b p n) {B : Nat} (k : Below B w w') (hb : b < B) : ArAt w' b p n :=
  ArAt.of fun v hv => by rw [k.cell (p := ⟨b, p + v, none⟩) hb]; exact h.at hv
def Ars (w : World) (a : Option Addr) (l : List Ar) : Prop :=
  l.length ≤ maxLen ∧ (l.length = 0 ∨ ∃ b o, a = some ⟨b, o, none⟩ ∧ ∀ i (h : i < l.length), ArAt w b (o + i * 8) l[i])
def WArs (w : World) (B : Nat) (a : Option Addr) (l : List Ar) : Prop :=
  l.length ≤ maxLen ∧ (l.length = 0 ∨ ∃ b o, a = some ⟨b, o, none⟩ ∧ B ≤ b ∧ (∀ i (h : i < l.length), ArAt w b (o + i * 8) l[i]) ∧ ∀ j, j < l.length * 8 → w.frozen? ⟨b, o + j, none⟩ = false)
theorem WArs.plain {w : World} {B : Nat} {a : Option Addr} {l : List Ar} (h : WArs w B a l) : Ars w a l := by
  refine ⟨h.1, ?_⟩
  rcases h.2 with h0 | ⟨b, o, ha, _, hc, _⟩
  · exact .inl h0
  · exact .inr ⟨b, o, ha, hc⟩
def setAr (w : World) (b p : Nat) (n : Ar) : World :=
  (((((((w.setCell ⟨b, p, none⟩ (.int .i64 (n 0))).setCell ⟨b, p + 1, none⟩ (.int .i64 (n 1))).setCell ⟨b, p + 2, none⟩ (.int .i64 (n 2))).setCell ⟨b, p + 3, none⟩ (.int .i64 (n 3))).setCell ⟨b, p + 4, none⟩ (.int .i64 (n 4))).setCell ⟨b, p + 5, none⟩ (.int .i64 (n 5))).setCell ⟨b, p + 6, none⟩ (.int .i64 (n 6))).setCell ⟨b, p + 7, none⟩ (.int .i64 (n 7))
theorem setAr_same {w : World} {b p : Nat} {v n : Ar} (h : ArAt w b p v) : ArAt (setAr w b p n) b p n := by
  obtain ⟨c0, c1, c2, c3, c4, c5, c6, c7⟩ := h
  unfold setAr
  refine ⟨?_, ?_, ?_, ?_, ?_, ?_, ?_, ?_⟩
  · rw [set_other (by simp), set_other (by simp), set_other (by simp), set_other (by simp), set_other (by simp), set_other (by simp), set_other (by simp)]; exact set_same (c0)
  · rw [set_other (by simp), set_other (by simp), set_other (by simp), set_other (by simp), set_other (by simp), set_other (by simp)]; exact set_same (by rw [set_other (by simp)]; exact c1)
  · rw [set_other (by simp), set_other (by simp), set_other (by simp), set_other (by simp), set_other (by simp)]; exact set_same (by rw [set_other (by simp), set_other (by simp)]; exact c2)
  · rw [set_other (by simp), set_other (by simp), set_other (by simp), set_other (by simp)]; exact set_same (by rw [set_other (by simp), set_other (by simp), set_other (by simp)]; exact c3)
  · rw [set_other (by simp), set_other (by simp), set_other (by simp)]; exact set_same (by rw [set_other (by simp), set_other (by simp), set_other (by simp), set_other (by simp)]; exact c4)
  · rw [set_other (by simp), set_other (by simp)]; exact set_same (by rw [set_other (by simp), set_other (by simp), set_other (by simp), set_other (by simp), set_other (by simp)]; exact c5)
  · rw [set_other (by simp)]; exact set_same (by rw [set_other (by simp), set_other (by simp), set_other (by simp), set_other (by simp), set_other (by simp), set_other (by simp)]; exact c6)
  · exact set_same (by rw [set_other (by simp), set_other (by simp), set_other (by simp), set_other (by simp), set_other (by simp), set_other (by simp), set_other (by simp)]; exact c7)
theorem setAr_cell {w : World} {b p : Nat} {n : Ar} {q : Nat} (h : q < p ∨ p + 8 ≤ q) : (setAr w b p n).cell? ⟨b, q, none⟩ = w.cell? ⟨b, q, none⟩ := by
  unfold setAr
  rw [set_other (by simp <;> omega), set_other (by simp <;> omega), set_other (by simp <;> omega), set_other (by simp <;> omega), set_other (by simp <;> omega), set_other (by simp <;> omega), set_other (by simp <;> omega), set_other (by simp <;> omega)]
theorem setAr_frozen {w : World} {b p : Nat} {n : Ar} {q : Addr} : (setAr w b p n).frozen? q = w.frozen? q := by
  unfold setAr; simp only [World.frozen?_setCell]
theorem setAr_other {w : World} {b p q : Nat} {v n : Ar} (h : ArAt w b q v) (hq : q + 8 ≤ p ∨ p + 8 ≤ q) : ArAt (setAr w b p n) b q v :=
  ArAt.of fun j hj => by rw [setAr_cell (by omega)]; exact h.at hj
theorem setAr_keptS {S : Nat → Prop} {b p : Nat} {u w : World} {n : Ar} (hS : S b) (h : Kept S u w) : Kept S u (setAr w b p n) :=
  (((((((h.setCell (p := ⟨b, p, none⟩) hS _).setCell (p := ⟨b, p + 1, none⟩) hS _).setCell (p := ⟨b, p + 2, none⟩) hS _).setCell (p := ⟨b, p + 3, none⟩) hS _).setCell (p := ⟨b, p + 4, none⟩) hS _).setCell (p := ⟨b, p + 5, none⟩) hS _).setCell (p := ⟨b, p + 6, none⟩) hS _).setCell (p := ⟨b, p + 7, none⟩) hS _
theorem infoAr : (Tryz.prog.info? 43).map (fun i => (i.zero, i.size, i.bytes)) = some (some (.agg #[.int .i64 0, .int .i64 0, .int .i64 0, .int .i64 0, .int .i64 0, .int .i64 0, .int .i64 0, .int .i64 0]), 8, 64) := by kernel_rfl
def flatA (l : List Ar) : List Value := l.flatMap Ar.cells
theorem flatA_get (l : List Ar) : ∀ (i : Nat) (h : i < l.length) (j : Nat), j < 8 → (flatA l)[i * 8 + j]? = (l[i].cells)[j]? := by
  induction l with
  | nil => intro i h; exact absurd h (Nat.not_lt_zero _)
  | cons n l ih =>
    intro i h j hj
    show (n.cells ++ flatA l)[i * 8 + j]? = _
    have hl : n.cells.length = 8 := rfl
    cases i with
    | zero => rw [Nat.zero_mul, Nat.zero_add, List.getElem?_append_left (by omega)]; rfl
    | succ i =>
      rw [List.getElem?_append_right (by omega), hl, show (i + 1) * 8 + j - 8 = i * 8 + j by omega]
      exact ih i (by simpa using h) j hj
theorem flatA_snoc (l : List Ar) (n : Ar) : flatA (l ++ [n]) = flatA l ++ n.cells := by simp [flatA]
def OwA (w : World) (B : Nat) (v : Value) (l : List Ar) : Prop := w.ownsRow B 43 8 v l.length (flatA l)
theorem cellA (n : Ar) {j : Nat} (hj : j < 8) : n.cells[j]? = some (.int .i64 (n j)) := by
  rcases (show j = 0 ∨ j = 1 ∨ j = 2 ∨ j = 3 ∨ j = 4 ∨ j = 5 ∨ j = 6 ∨ j = 7 by omega) with rfl | rfl | rfl | rfl | rfl | rfl | rfl | rfl <;> rfl
theorem OwA.form {w : World} {B : Nat} {v : Value} {l : List Ar} (h : OwA w B v l) : ∃ a c, v = .slice a l.length c ∧ WArs w B a l ∧ l.length ≤ c := by
  obtain ⟨h1, h2⟩ := h
  rcases h2 with ⟨rfl, h0⟩ | ⟨g, cap, cur, rfl, hb, hg, hn, hm, hs, ht⟩
  · have : l = [] := List.eq_nil_of_length_eq_zero h0
    subst this
    exact ⟨none, 0, rfl, ⟨Nat.zero_le _, .inl rfl⟩, Nat.zero_le _⟩
  · have hcell : ∀ j, j < l.length * 8 → w.cell? ⟨g, j, none⟩ = (flatA l)[j]? := by
      intro j hj
      rw [cell_of_row w g j cur _ _ hg, ← ht, List.getElem?_take_of_lt hj]
      simp
    refine ⟨_, _, rfl, ⟨by omega, .inr ⟨g, 0, rfl, hb, fun i hi => ArAt.of fun v hv => ?_, fun j hj => ?_⟩⟩, by omega⟩
    · rw [Nat.zero_add, hcell _ (by omega), flatA_get l i hi v hv]
      exact cellA _ hv
    · rw [Nat.zero_add]
      simp [World.frozen?, hg]
theorem OwA.lit (w : World) (B : Nat) (hB : B ≤ w.heap.size) : OwA (w.alloc (.cells #[] 43)) B (.slice (some ⟨w.heap.size, 0, none⟩) 0 0) [] :=
  World.ownsRow_lit w #[] 0 hB (Nat.zero_le _) rfl
theorem OwA.lt {w : World} {B : Nat} {v : Value} {l : List Ar} (h : OwA w B v l) : ∀ k, v.ownBlock = some k → B ≤ k ∧ k < w.heap.size := World.ownsRow.lt h
theorem OwA.kept {w w' : World} {B : Nat} {v : Value} {l : List Ar} (h : OwA w B v l) {S : Nat → Prop} (k : Kept S w w') (hs : ∀ i, v.ownBlock = some i → ¬ S i) : OwA w' B v l := by
  refine ⟨h.1, ?_⟩
  rcases h.2 with hn | ⟨g, cap, cur, rfl, hb, hgg, rest⟩
  · exact .inl hn
  · refine .inr ⟨g, cap, cur, rfl, hb, ?_, rest⟩
    rw [k.block g (Array.getElem?_eq_some_iff.1 hgg).1 (hs g rfl)]
    exact hgg
theorem app_a {ops : Array Oper} {rest : List Oper} {o : Oper} {a : Act} {Q : Exit → Act → World → Prop} (W : World) (hgd : o.guard = none) (s x : Operand)
    (ho : o.op = .call { callee := .builtin .append, args := #[s, x], argTypes := #[71, 71] })
    (B : Nat) (v : Value) (l : List Ar) (n : Ar) (hs : a.eval s = v) (G : Nat) (hx : a.eval x = .slice (some ⟨G, 0, none⟩) 1 1) (hG : G = W.heap.size)
    (hown : OwA W B v l) (hB : B ≤ W.heap.size) (hlen : l.length ≤ 1048576)
    (h : ∀ g cap w', OwA w' B (.slice (some ⟨g, 0, none⟩) (l.length + 1) cap) (l ++ [n]) → Kept (fun k => v.ownBlock = some k) W w' → (v.ownBlock = some g ∨ W.heap.size ≤ g) → wpList Tryz.prog ops Q rest (a.put o.dst (.slice (some ⟨g, 0, none⟩) (l.length + 1) cap)) w') :
    wpList Tryz.prog ops Q (o :: rest) a (W.alloc (.cells #[.int .i64 (n 0), .int .i64 (n 1), .int .i64 (n 2), .int .i64 (n 3), .int .i64 (n 4), .int .i64 (n 5), .int .i64 (n 6), .int .i64 (n 7)] 43)) := by
  subst hG
  obtain ⟨i, hi, hzz⟩ := Option.map_eq_some_iff.1 infoAr
  simp only [Prod.mk.injEq] at hzz
  obtain ⟨hz, hsz, hb⟩ := hzz
  refine wpList_append_lies (W.alloc (.cells #[.int .i64 (n 0), .int .i64 (n 1), .int .i64 (n 2), .int .i64 (n 3), .int .i64 (n 4), .int .i64 (n 5), .int .i64 (n 6), .int .i64 (n 7)] 43)) hgd s x 71 ho B 43 i _ 8 64 Tryz.underlying71 hi hz hsz hb rfl (by omega) v l.length (flatA l) hs (World.ownsRow.alloc hown _)
    ⟨W.heap.size, 0, none⟩ 1 1 n.cells hx rfl ?_ ?_ (by omega) (by unfold maxLen; omega) (by omega) (by simp; omega) _ rfl ?_
  · intro j u hu
    exact World.news_of_block (heap_alloc_new W _) j u hu
  · intro u hu
    simp [Ar.cells] at hu
    rcases hu with rfl | rfl | rfl | rfl | rfl | rfl | rfl | rfl <;> rfl
  · intro g cap w' h1 h2 h3 h4
    refine h g cap w' ?_ ?_ ?_
    · unfold OwA
      rw [flatA_snoc, List.length_append]
      exact h1
    · have k1 : Kept (fun k => v.ownBlock = some k) W (W.alloc (.cells #[.int .i64 (n 0), .int .i64 (n 1), .int .i64 (n 2), .int .i64 (n 3), .int .i64 (n 4), .int .i64 (n 5), .int .i64 (n 6), .int .i64 (n 7)] 43)) := (Kept.refl _ W).alloc _
      exact k1.trans ⟨h2.os, h2.tape, h2.output, h2.size, fun k hk hn => h2.block k hk (fun e => hn e.symm)⟩
    · rcases h3 with h3 | h3
      · exact .inl h3
      · exact .inr (by rw [h3]; simp)
def zerosA (n : Nat) : Array Value := madeCells #[.int .i64 0, .int .i64 0, .int .i64 0, .int .i64 0, .int .i64 0, .int .i64 0, .int .i64 0, .int .i64 0] (n * 8)
theorem makeAs (n : Nat) (hn : n ≤ 1048576) (w : World) :
    (Instr.makeSlice 71 (.int .i64 (n : Int)) (.int .i64 (n : Int))).run Tryz.prog w = .ok (.slice (some ⟨w.heap.size, 0, none⟩) n n) (w.alloc (.cells (zerosA n) 43)) := by
  obtain ⟨i, hi, hzz⟩ := Option.map_eq_some_iff.1 infoAr
  simp only [Prod.mk.injEq] at hzz
  obtain ⟨hz, hs, hb⟩ := hzz
  have h := run_make (P := Tryz.prog) w 71 43 i _ Tryz.underlying71 hi hz .i64 .i64 n n (by omega) (Int.le_refl _) (by rw [hb]; omega) (by omega)
  rw [hs] at h
  simpa [zerosA, Value.cells] using h
theorem zerosA_get (n j : Nat) (h : j < n * 8) : (zerosA n)[j]? = some (.int .i64 0) := by
  have hz : ∀ m, m < 8 → (#[.int .i64 0, .int .i64 0, .int .i64 0, .int .i64 0, .int .i64 0, .int .i64 0, .int .i64 0, .int .i64 0] : Array Value)[m]! = .int .i64 0 := by
    intro m hm
    rcases (show m = 0 ∨ m = 1 ∨ m = 2 ∨ m = 3 ∨ m = 4 ∨ m = 5 ∨ m = 6 ∨ m = 7 by omega) with rfl | rfl | rfl | rfl | rfl | rfl | rfl | rfl <;> rfl
  simp only [zerosA, madeCells, Array.getElem?_map, Array.getElem?_range]
  rw [if_pos h]
  simp only [Option.map_some]
  exact congrArg some (hz _ (Nat.mod_lt _ (by simp)))
theorem zerosA_at (w : World) (n : Nat) (T : Nat) (j : Nat) (hj : j < n) : ArAt (w.alloc (.cells (zerosA n) T)) w.heap.size (j * 8) Ar.nil :=
  ArAt.of fun v hv => by rw [World.cell?_alloc_new]; exact zerosA_get n _ (by omega)
def RowA (w : World) (g n : Nat) (f : Nat → Ar) : Prop := ∀ i, i < n → ArAt w g (i * 8) (f i) ∧ ∀ j, j < 8 → w.frozen? ⟨g, i * 8 + j, none⟩ = false
theorem RowA.kept {w w' : World} {g n : Nat} {f : Nat → Ar} (h : RowA w g n f) {S : Nat → Prop} (k : Kept S w w') (hs : ¬ S g) : RowA w' g n f := fun i hi => by
  obtain ⟨h1, hf⟩ := h i hi
  exact ⟨h1.kept k hs, fun j hj => by rw [k.frozen (p := ⟨g, i * 8 + j, none⟩) h1.lt hs]; exact hf j hj⟩
theorem RowA.below {w w' : World} {g n : Nat} {f : Nat → Ar} (h : RowA w g n f) (k : Below w.heap.size w w') : RowA w' g n f := h.kept (S := fun _ => False) (Kept.ofBelow k) (fun h => h)
theorem RowA.congr {w : World} {g n : Nat} {f f' : Nat → Ar} (h : RowA w g n f) (e : ∀ i, i < n → f i = f' i) : RowA w g n f' := fun i hi => by rw [← e i hi]; exact h i hi
theorem RowA.lt {w : World} {g n : Nat} {f : Nat → Ar} (h : RowA w g n f) (hn : 0 < n) : g < w.heap.size := (h 0 hn).1.lt
theorem RowA.set {w : World} {g n : Nat} {f : Nat → Ar} (h : RowA w g n f) {p : Nat} (hp : p < n) (v : Ar) : RowA (setAr w g (p * 8) v) g n (fun i => if i = p then v else f i) := by
  intro i hi
  refine ⟨?_, fun j hj => by rw [setAr_frozen]; exact (h i hi).2 j hj⟩
  by_cases e : i = p
  · subst e
    dsimp only
    rw [if_pos rfl]
    exact setAr_same (h i hi).1
  · dsimp only
    rw [if_neg e]
    exact setAr_other (h i hi).1 (by omega)
theorem RowA.new (w : World) (n T : Nat) : RowA (w.alloc (.cells (zerosA n) T)) w.heap.size n (fun _ => Ar.nil) := fun i hi => ⟨zerosA_at w n T i hi, fun j hj => by simp⟩

end Go.Proofs.YtjfikpfdhjbheaaGreat.Ar0

/- The walk of the program's moved and Prune. -/
namespace Go.Proofs.YtjfikpfdhjbheaaGreat.Pg10
open Go.RowKit
open Nd0 Nd3 Tm0 Tm1 Tm2 Tm3 Tm8 Ap2 Pg1 Pg2 Rw0
open Lx1 (ITermOk)
open Lx2 (IReached)
open Ws1 (ret_int ret_bool)
set_option linter.unusedVariables false

end Go.Proofs.YtjfikpfdhjbheaaGreat.Pg10

/- The walk of the program's Prune. -/
namespace Go.Proofs.YtjfikpfdhjbheaaGreat.Pg11
open Go.RowKit
open Nd0 Nd3 Tm0 Tm1 Tm2 Tm3 Tm8 Ap2 Pg1 Pg2 Rw0 Pg10
open Lx1 (ITermOk)
open Lx2 (IReached)
set_option linter.unusedVariables false

theorem infoInt : (Tryz.prog.info? 3).map (fun i => (i.zero, i.size, i.bytes)) = some (some (.int .i64 0), 1, 8) := by kernel_rfl
def noughts (n : Nat) : Array Value := madeCells #[.int .i64 0] (n * 1)
theorem noughts_get (n j : Nat) (h : j < n) : (noughts n)[j]? = some (.int .i64 0) := by
  simp only [noughts, madeCells, Array.getElem?_map, Array.getElem?_range]
  rw [if_pos (by omega)]
  simp only [Option.map_some, List.size_toArray, List.length_cons, List.length_nil, Nat.zero_add, Nat.mod_one]
  rfl
theorem makeInts (n : Nat) (hn : n ≤ 1048576) (w : World) :
    (Instr.makeSlice 30 (.int .i64 (n : Int)) (.int .i64 (n : Int))).run Tryz.prog w = .ok (.slice (some ⟨w.heap.size, 0, none⟩) n n) (w.alloc (.cells (noughts n) 3)) := by
  obtain ⟨i, hi, hzz⟩ := Option.map_eq_some_iff.1 infoInt
  simp only [Prod.mk.injEq] at hzz
  obtain ⟨hz, hs, hb⟩ := hzz
  have h := run_make (P := Tryz.prog) w 30 3 i _ Tryz.underlying30 hi hz .i64 .i64 n n (by omega) (Int.le_refl _) (by rw [hb]; omega) (by omega)
  rw [hs] at h
  simpa [noughts, Value.cells] using h

end Go.Proofs.YtjfikpfdhjbheaaGreat.Pg11

/- The program's walk over a term, for whole numbers. -/
namespace Go.Proofs.YtjfikpfdhjbheaaGreat.Aw1
open Go.RowKit
open Nd0 Pl1 Tm0 Tm1 Tm8 Ap0 Pg1 Pg2 Rw0 Aq0
open Pg11 (makeInts noughts noughts_get)
set_option linter.unusedVariables false

abbrev nv (n : Nd) : Value := .agg #[.int .i64 n.op, .int .i64 n.w, .int .i64 n.k, .int .i64 n.a, .int .i64 n.b, .int .i64 n.c]
end Go.Proofs.YtjfikpfdhjbheaaGreat.Aw1
