/- Small texts of mine, one behind the other. -/
import Derived.Laws.MakeOwn
import Derived.Test.YtebejleeadofcaaPkXF24
import Derived.Test.YtebejleeadofcaaPkXF34
import Derived.Test.YtebejleeadofcaaPkXF36
import Derived.Test.YtebejleeadofcaaPkXF10
import Derived.Test.YtebejleeadofcaaTm8
/- The walk of the exact laws' copy of a list of nodes. -/
namespace Go.Proofs.Ytebejleeadofcaa.Nd4
open Go.RowKit
open Nd0 Nd1 Nd3
set_option linter.unusedVariables false

theorem infoNode : (Try.prog.info? 39).map (fun i => (i.zero, i.size, i.bytes)) = some (some (.agg #[.int .i64 0, .int .i64 0, .int .i64 0, .int .i64 0, .int .i64 0, .int .i64 0]), 6, 48) := by kernel_rfl

/-- n nodes of noughts. -/
def zeros (n : Nat) : Array Value := madeCells #[.int .i64 0, .int .i64 0, .int .i64 0, .int .i64 0, .int .i64 0, .int .i64 0] (n * 6)
theorem zeros_get (n j : Nat) (h : j < n * 6) : (zeros n)[j]? = some (.int .i64 0) := by
  have hz : ∀ m, m < 6 → (#[.int .i64 0, .int .i64 0, .int .i64 0, .int .i64 0, .int .i64 0, .int .i64 0] : Array Value)[m]! = .int .i64 0 := by
    intro m hm
    have : m = 0 ∨ m = 1 ∨ m = 2 ∨ m = 3 ∨ m = 4 ∨ m = 5 := by omega
    rcases this with rfl | rfl | rfl | rfl | rfl | rfl <;> rfl
  simp only [zeros, madeCells, Array.getElem?_map, Array.getElem?_range]
  rw [if_pos h]
  simp only [Option.map_some]
  exact congrArg some (hz _ (Nat.mod_lt _ (by simp)))
theorem makeNodes (n : Nat) (hn : n ≤ 1048576) (w : World) :
    (Instr.makeSlice 25 (.int .i64 (n : Int)) (.int .i64 (n : Int))).run Try.prog w = .ok (.slice (some ⟨w.heap.size, 0, none⟩) n n) (w.alloc (.cells (zeros n) 39)) := by
  obtain ⟨i, hi, hzz⟩ := Option.map_eq_some_iff.1 infoNode
  simp only [Prod.mk.injEq] at hzz
  obtain ⟨hz, hs, hb⟩ := hzz
  have h := run_make (P := Try.prog) w 25 39 i _ Try.underlying25 hi hz .i64 .i64 n n (by omega) (Int.le_refl _) (by rw [hb]; omega) (by omega)
  rw [hs] at h
  simpa [zeros, Value.cells] using h
theorem zeros_at (w : World) (n : Nat) (T : Nat) (j : Nat) (hj : j < n) : NodeAt (w.alloc (.cells (zeros n) T)) w.heap.size (j * 6) Nd.zero := by
  refine ⟨?_, ?_, ?_, ?_, ?_, ?_⟩ <;> rw [World.cell?_alloc_new] <;> exact zeros_get _ _ (by omega)

set_option maxHeartbeats 2000000 in
theorem toNodeS (w : World) (a : Option Addr) (l : List Nd) (c : Nat) (h : Nodes w a l) (hl : l.length ≤ 1048576) :
    Calls Try.prog 6 #[.slice a l.length c] w fun e w' => e = .returned (.slice (some ⟨w.heap.size, 0, none⟩) l.length l.length) ∧ WNodes w' w.heap.size (some ⟨w.heap.size, 0, none⟩) l ∧ Below w.heap.size w w' := by
  have H : Hid (Nodes w a l) := h
  clear h
  have hmk := makeNodes l.length hl
  go_enter Try.func6, Try.ntmps6
  go_wp2
  clear hmk
  go_loopw [4] (fun i wr => ∃ k : Nat, k ≤ l.length ∧ i = .int .i64 k ∧ Below w.heap.size w wr ∧ w.heap.size < wr.heap.size ∧ (∀ j, j < l.length * 6 → wr.frozen? ⟨w.heap.size, j, none⟩ = false) ∧ ∀ j (hj : j < l.length), ∃ v : Nd, NodeAt wr w.heap.size (j * 6) v ∧ (j < k → v = l[j])) (fun i _ => l.length - (intOf i).toNat)
  case atStart =>
    exact ⟨0, Nat.zero_le _, rfl, (Below.refl _ _).alloc (Nat.le_refl _) _, by simp, fun j hj => by simp, fun j hj => ⟨_, zeros_at w _ _ j hj, fun x => by omega⟩⟩
  case round =>
    obtain ⟨k, hk, rfl, hb, hz, hf, hx⟩ := hrel
    have HB : Hid (Below w.heap.size w wr) := hb
    by_cases hlt : k < l.length
    · have HN := H.out.below hb
      clear hb
      rcases HN.2 with h0 | ⟨xb, xo, rfl, hc⟩
      · omega
      obtain ⟨p0, p1, p2, p3, p4, p5⟩ := hc k hlt
      have HL : Hid (l[k] = l[k]) := rfl
      clear hc HN HL
      have HX : Hid (∀ j (hj : j < l.length), ∃ v : Nd, NodeAt wr w.heap.size (j * 6) v ∧ (j < k → v = l[j])) := hx
      have HF : Hid (∀ j, j < l.length * 6 → wr.frozen? ⟨w.heap.size, j, none⟩ = false) := hf
      clear hx hf
      have hlz : (k : Int) < (l.length : Int) := by omega
      obtain ⟨nd, hnd⟩ : ∃ nd : Nd, nd = l[k] := ⟨_, rfl⟩
      have HD : Hid (nd = l[k]) := hnd
      rw [← hnd] at p0 p1 p2 p3 p4 p5
      clear hnd
      go_wp2_with fail
      refine (toNode _ _ _ _ _ _ _).mono ?_
      rintro e w1 ⟨rfl, hb1⟩
      have HB1 : Hid (Below wr.heap.size wr w1) := hb1
      obtain ⟨v, ⟨q0, q1, q2, q3, q4, q5⟩, _⟩ := HX.out k hlt
      have g0 : w1.frozen? ⟨w.heap.size, k * 6, none⟩ = false := by rw [hb1.frozen hz]; exact HF.out (k * 6) (by omega)
      have g1 : w1.frozen? ⟨w.heap.size, k * 6 + 1, none⟩ = false := by rw [hb1.frozen hz]; exact HF.out (k * 6 + 1) (by omega)
      have g2 : w1.frozen? ⟨w.heap.size, k * 6 + 2, none⟩ = false := by rw [hb1.frozen hz]; exact HF.out (k * 6 + 2) (by omega)
      have g3 : w1.frozen? ⟨w.heap.size, k * 6 + 3, none⟩ = false := by rw [hb1.frozen hz]; exact HF.out (k * 6 + 3) (by omega)
      have g4 : w1.frozen? ⟨w.heap.size, k * 6 + 4, none⟩ = false := by rw [hb1.frozen hz]; exact HF.out (k * 6 + 4) (by omega)
      have g5 : w1.frozen? ⟨w.heap.size, k * 6 + 5, none⟩ = false := by rw [hb1.frozen hz]; exact HF.out (k * 6 + 5) (by omega)
      rw [← hb1.cell hz] at q0 q1 q2 q3 q4 q5
      clear hb1 p0 p1 p2 p3 p4 p5
      go_wp2
      go_roundw
      case rel =>
        have F1 : Below w.heap.size w (setNode w1 w.heap.size (k * 6) nd) :=
          HB.out.trans ((setNode_kept (b := w.heap.size) (o := 0) (p := k * 6) (n := nd) (Kept.ofBelow HB1.out)).below (fun i hi => by obtain ⟨x, hx, rfl⟩ := hi; cases hx; exact Nat.le_refl _) HB.out.size)
        have F2 : w.heap.size < (setNode w1 w.heap.size (k * 6) nd).heap.size := by
          have := HB1.out.size
          rw [setNode_size]; omega
        have F3 : ∀ j, j < l.length * 6 → (setNode w1 w.heap.size (k * 6) nd).frozen? ⟨w.heap.size, j, none⟩ = false := by
          intro j hj
          rw [setNode_frozen, HB1.out.frozen hz]; exact HF.out j hj
        have F4 : ∀ j (hj : j < l.length), ∃ v : Nd, NodeAt (setNode w1 w.heap.size (k * 6) nd) w.heap.size (j * 6) v ∧ (j < k + 1 → v = l[j]) := by
          intro j hj
          obtain ⟨u, r0, r1⟩ := HX.out j hj
          have r2 : NodeAt w1 w.heap.size (j * 6) u := r0.below HB1.out hz
          by_cases e : j = k
          · subst e
            exact ⟨nd, setNode_same r2, fun _ => HD.out⟩
          · exact ⟨u, setNode_other r2 (by omega), fun x => r1 (by omega)⟩
        exact ⟨k + 1, by omega, by go_num, F1, F2, F3, F4⟩
      case measure => simp [intOf]; omega
    · go_wp2
      go_ret
      refine ⟨rfl, ⟨H.out.1, ?_⟩, HB.out⟩
      refine .inr ⟨w.heap.size, 0, rfl, Nat.le_refl _, fun i hi => ?_, fun j hj => by rw [Nat.zero_add]; exact hf j hj⟩
      obtain ⟨v, q0, q1⟩ := hx i hi
      rw [Nat.zero_add, ← q1 (by omega)]
      exact q0

end Go.Proofs.Ytebejleeadofcaa.Nd4

/- The walk of the program's Parts. -/
namespace Go.Proofs.Ytebejleeadofcaa.Pg2
open Go.RowKit
open Nd0 Tm0 Tm5 Pl1 Ap0 Pg1
open Ws1 (ret_int ret_bool)
set_option linter.unusedVariables false

/-- Some numbers more. -/
theorem app_ints {ops : Array Oper} {rest : List Oper} {o : Oper} {a : Act} {Q : Exit → Act → World → Prop} (W : World) (hgd : o.guard = none) (s x : Operand)
    (ho : o.op = .call { callee := .builtin .append, args := #[s, x], argTypes := #[40, 40] })
    (B : Nat) (v : Value) (l ys : List Int) (g c : Nat) (hs : a.eval s = v) (hx : a.eval x = .slice (some ⟨g, 0, none⟩) ys.length c)
    (hy : ∀ j (h : j < ys.length), W.cell? ⟨g, j, none⟩ = some (.int .i64 ys[j])) (hp : 0 < ys.length)
    (hown : Ows W B v l) (hB : B ≤ W.heap.size) (hlen : l.length + ys.length ≤ 1048577)
    (h : ∀ g cap w', Ows w' B (.slice (some ⟨g, 0, none⟩) (l.length + ys.length) cap) (l ++ ys) → Kept (fun k => v.ownBlock = some k) W w' → wpList Try.prog ops Q rest (a.put o.dst (.slice (some ⟨g, 0, none⟩) (l.length + ys.length) cap)) w') :
    wpList Try.prog ops Q (o :: rest) a W := by
  obtain ⟨i, hi, hzz⟩ := Option.map_eq_some_iff.1 infoInt
  simp only [Prod.mk.injEq] at hzz
  obtain ⟨hz, hsz, hb⟩ := hzz
  refine wpList_append_lies W hgd s x 40 ho B 3 i (.int .i64 0) 1 8 Try.underlying40 hi hz hsz hb rfl (by omega) v l.length (l.map fun x => .int .i64 x) hs hown
    ⟨g, 0, none⟩ ys.length c (ys.map fun x => .int .i64 x) hx (by simp) ?_ ?_ hp (by unfold maxLen; omega) (by omega) hB _ rfl ?_
  · intro j u hu
    have hadd : (⟨g, 0, none⟩ : Addr).add j = ⟨g, j, none⟩ := by unfold Addr.add; split <;> simp_all
    rw [hadd]
    rw [List.getElem?_map] at hu
    obtain ⟨y, hy1, rfl⟩ := Option.map_eq_some_iff.1 hu
    obtain ⟨hj, rfl⟩ := List.getElem?_eq_some_iff.1 hy1
    exact hy j hj
  · intro u hu
    obtain ⟨y, _, rfl⟩ := List.mem_map.1 hu
    rfl
  · intro g cap w' h1 h2 h3 h4
    refine h g cap w' ?_ ?_
    · unfold Ows
      simpa using h1
    · exact ⟨h2.os, h2.tape, h2.output, h2.size, fun k hk hn => h2.block k hk (fun e => hn e.symm)⟩

theorem ows_lit (W : World) (B g : Nat) (hg : g = W.heap.size) (hB : B ≤ g) : Ows (W.alloc (.cells #[] 3)) B (.slice (some ⟨g, 0, none⟩) 0 0) [] := by
  subst hg; exact Ows.lit W B hB

theorem get3 (x y z : Int) (W : World) (g t : Nat) (k : Nat) (hk : k ≤ 3) (hg : g = W.heap.size) (j : Nat) (h : j < (([x, y, z] : List Int).take k).length) (o : Obj) :
    ((W.alloc (.cells #[.int .i64 x, .int .i64 y, .int .i64 z] t)).alloc o).cell? ⟨g, j, none⟩ = some (.int .i64 (([x, y, z] : List Int).take k)[j]) := by
  subst hg
  rw [World.cell?_alloc_old _ _ _ (by simp), World.cell?_alloc_new]
  have h3 : j < 3 := by simp at h; omega
  rcases j with _ | _ | _ | j
  · simp
  · simp
  · simp
  · omega

set_option maxHeartbeats 1000000 in
theorem iParts (n : Nd) (w : World) :
    Calls Try.prog 49 #[.agg #[.int .i64 n.op, .int .i64 n.w, .int .i64 n.k, .int .i64 n.a, .int .i64 n.b, .int .i64 n.c]] w fun e w' => (∃ a c, e = .returned (.slice a (parts n).length c) ∧ WInts w' w.heap.size a (parts n)) ∧ Below w.heap.size w w' := by
  have HP : Hid (parts n = ([n.a, n.b, n.c] : List Int).take (cnt n.op)) := by
    show parts n = _
    unfold parts cnt; split
    · rfl
    · split
      · rfl
      · split <;> rfl
  have hc3 := cnt_le n.op
  by_cases h1 : cnt n.op = 0
  · go_enter Try.func49, Try.ntmps49
    go_wp2_with (go_at_call 51; refine (iCount _ _).mono ?_; rintro e w' ⟨rfl, rfl⟩; rw [h1])
    go_ret
    rw [HP.out, h1]
    exact ⟨⟨_, _, rfl, Nat.zero_le _, .inl rfl⟩, (((Below.refl _ _).alloc (Nat.le_refl _) _).alloc (by simp) _).alloc (by simp; omega) _⟩
  · obtain ⟨l3, hl3⟩ : ∃ l3 : List Int, l3 = ([n.a, n.b, n.c] : List Int).take (cnt n.op) := ⟨_, rfl⟩
    have HL3 : Hid (l3 = ([n.a, n.b, n.c] : List Int).take (cnt n.op)) := hl3
    have hlen : l3.length = cnt n.op := by rw [hl3, List.length_take]; simp; omega
    have HLN : Hid (l3.length = cnt n.op) := hlen
    have hcz : (cnt n.op : Int) ≤ 3 := by omega
    clear hl3 hlen
    go_enter Try.func49, Try.ntmps49
    go_wp2_with (first | (go_at_call 51; refine (iCount _ _).mono ?_; rintro e w' ⟨rfl, rfl⟩) | (at_builtin; go_must (refine app_ints _ rfl _ _ rfl w.heap.size (.slice (some ⟨w.heap.size + 1 + 1, 0, none⟩) 0 0) [] l3 (w.heap.size + 1) 3 rfl (by rw [HLN.out]; rfl) (fun j h => by have h9 := HL3.out; subst h9; exact get3 _ _ _ _ _ _ _ hc3 (by simp) _ h _) (by rw [HLN.out]; omega) (ows_lit _ _ _ (by simp) (by omega)) (by simp; omega) (by rw [HLN.out]; simp; omega) ?_; intro g cp w3 ho3 hk3)))
    have HO3 : Hid (Ows w3 w.heap.size (.slice (some ⟨g, 0, none⟩) (([] : List Int).length + l3.length) cp) ([] ++ l3)) := ho3
    have HK3 := hk3.below (B := w.heap.size) (fun k hk => by cases hk; show w.heap.size ≤ w.heap.size + 1 + 1; omega) (by simp; omega)
    have HB3 : Hid (Below w.heap.size w w3) := ((((Below.refl _ _).alloc (Nat.le_refl _) _).alloc (by simp) _).alloc (by simp; omega) _).trans HK3
    clear ho3 hk3 HK3
    go_wp2
    go_ret
    obtain ⟨a9, c9, hv9, hw9⟩ := HO3.out.form
    simp only [List.nil_append, List.length_nil, Nat.zero_add] at hv9 hw9
    rw [HP.out, ← HL3.out]
    cases hv9
    refine ⟨⟨some ⟨g, 0, none⟩, cp, ?_, hw9⟩, HB3.out⟩
    simp

end Go.Proofs.Ytebejleeadofcaa.Pg2

/- The walk of the program's moved and Prune. -/
namespace Go.Proofs.Ytebejleeadofcaa.Pg10
open Go.RowKit
open Nd0 Nd3 Tm0 Tm1 Tm2 Tm3 Tm8 Ap2 Pg1 Pg2 Rw0
open Lx1 (ITermOk)
open Lx2 (IReached)
open Ws1 (ret_int ret_bool)
set_option linter.unusedVariables false

/-- A node with its parts told by other places. -/
def mv (P : Nat → Int) (n : Nd) : Nd :=
  ⟨n.op, n.w, n.k, if 0 < cnt n.op then P n.a.toNat else n.a, if 1 < cnt n.op then P n.b.toNat else n.b, if 2 < cnt n.op then P n.c.toNat else n.c⟩

set_option maxHeartbeats 4000000 in
theorem iMoved (n : Nd) (w : World) (gp len cap : Nat) (P : Nat → Int) (hr : Row w gp len (fun i => .int .i64 (P i))) (hp : ∀ p ∈ parts n, 0 ≤ p ∧ p < (len : Int)) (hl : len ≤ 80) :
    Calls Try.prog 43 #[.agg #[.int .i64 n.op, .int .i64 n.w, .int .i64 n.k, .int .i64 n.a, .int .i64 n.b, .int .i64 n.c], .slice (some ⟨gp, 0, none⟩) len cap] w fun e w' =>
      e = .returned (.agg #[.int .i64 (mv P n).op, .int .i64 (mv P n).w, .int .i64 (mv P n).k, .int .i64 (mv P n).a, .int .i64 (mv P n).b, .int .i64 (mv P n).c]) ∧ Below w.heap.size w w' := by
  have hc3 := cnt_le n.op
  have hcp := cnt_parts n
  have HC : Hid (cnt n.op = 0 ∨ cnt n.op = 1 ∨ cnt n.op = 2 ∨ cnt n.op = 3) := by show _ ∨ _; omega
  have HV : Hid (mv P n = ⟨n.op, n.w, n.k, if 0 < cnt n.op then P n.a.toNat else n.a, if 1 < cnt n.op then P n.b.toNat else n.b, if 2 < cnt n.op then P n.c.toNat else n.c⟩) := rfl
  have HPC := parts_cases n
  have HA : Hid (0 < cnt n.op → ∃ j : Nat, n.a = (j : Int) ∧ j < len ∧ w.cell? ⟨gp, j, none⟩ = some (.int .i64 (P n.a.toNat))) := by
    show _ → _
    intro h
    have hm : n.a ∈ parts n := by
      rcases HPC with e | e | e | e
      · rw [e] at hcp; simp at hcp; omega
      · rw [e]; simp
      · rw [e]; simp
      · rw [e]; simp
    obtain ⟨h0, h1⟩ := hp _ hm
    exact ⟨n.a.toNat, by omega, by omega, (hr n.a.toNat (by omega)).1⟩
  have HB : Hid (1 < cnt n.op → ∃ j : Nat, n.b = (j : Int) ∧ j < len ∧ w.cell? ⟨gp, j, none⟩ = some (.int .i64 (P n.b.toNat))) := by
    show _ → _
    intro h
    have hm : n.b ∈ parts n := by
      rcases HPC with e | e | e | e
      · rw [e] at hcp; simp at hcp; omega
      · rw [e] at hcp; simp at hcp; omega
      · rw [e]; simp
      · rw [e]; simp
    obtain ⟨h0, h1⟩ := hp _ hm
    exact ⟨n.b.toNat, by omega, by omega, (hr n.b.toNat (by omega)).1⟩
  have HD : Hid (2 < cnt n.op → ∃ j : Nat, n.c = (j : Int) ∧ j < len ∧ w.cell? ⟨gp, j, none⟩ = some (.int .i64 (P n.c.toNat))) := by
    show _ → _
    intro h
    have hm : n.c ∈ parts n := by
      rcases HPC with e | e | e | e
      · rw [e] at hcp; simp at hcp; omega
      · rw [e] at hcp; simp at hcp; omega
      · rw [e] at hcp; simp at hcp; omega
      · rw [e]; simp
    obtain ⟨h0, h1⟩ := hp _ hm
    exact ⟨n.c.toNat, by omega, by omega, (hr n.c.toNat (by omega)).1⟩
  clear hc3 hcp HPC hr hp
  generalize mv P n = u at HV ⊢
  generalize P n.a.toNat = xa at HV HA
  generalize P n.b.toNat = xb at HV HB
  generalize P n.c.toNat = xc at HV HD
  obtain ⟨op, m, k, a, b, c⟩ := n
  dsimp only at *
  rcases HC.out with hc | hc | hc | hc
  · have HK : Hid (cnt op = _) := hc
    clear HA HB HD
    go_enter Try.func43, Try.ntmps43
    go_wp2_with (go_at_call 51; refine (iCount _ _).mono ?_; rintro e w' ⟨rfl, rfl⟩; rw [hc])
    refine bodyPost_ret (v := .agg #[.int .i64 u.op, .int .i64 u.w, .int .i64 u.k, .int .i64 u.a, .int .i64 u.b, .int .i64 u.c]) ?_ rfl ⟨rfl, ?_⟩
    · have h9 := HV.out
      rw [HK.out] at h9
      simp at h9
      subst h9
      simp [results, Try.results43, go_sem]
    · exact ((Below.refl _ _).alloc (Nat.le_refl _) _).alloc (by simp) _
  · have HK : Hid (cnt op = _) := hc
    obtain ⟨ja, rfl, hja, pa⟩ := HA.out (by omega)
    have hz1 : (ja : Int) < (len : Int) := by omega
    have hn0 : gp < w.heap.size := lt_of_cell (p := ⟨gp, ja, none⟩) pa
    have hn1 : gp < w.heap.size + 1 := by omega
    clear HA HB HD
    go_enter Try.func43, Try.ntmps43
    go_wp2_with (go_at_call 51; refine (iCount _ _).mono ?_; rintro e w' ⟨rfl, rfl⟩; rw [hc])
    refine bodyPost_ret (v := .agg #[.int .i64 u.op, .int .i64 u.w, .int .i64 u.k, .int .i64 u.a, .int .i64 u.b, .int .i64 u.c]) ?_ rfl ⟨rfl, ?_⟩
    · have h9 := HV.out
      rw [HK.out] at h9
      simp at h9
      subst h9
      simp [results, Try.results43, go_sem]
    · exact ((Below.refl _ _).alloc (Nat.le_refl _) _).alloc (by simp) _
  · have HK : Hid (cnt op = _) := hc
    obtain ⟨ja, rfl, hja, pa⟩ := HA.out (by omega)
    obtain ⟨jb, rfl, hjb, pb⟩ := HB.out (by omega)
    have hz1 : (ja : Int) < (len : Int) := by omega
    have hz2 : (jb : Int) < (len : Int) := by omega
    have hn0 : gp < w.heap.size := lt_of_cell (p := ⟨gp, ja, none⟩) pa
    have hn1 : gp < w.heap.size + 1 := by omega
    clear HA HB HD
    go_enter Try.func43, Try.ntmps43
    go_wp2_with (go_at_call 51; refine (iCount _ _).mono ?_; rintro e w' ⟨rfl, rfl⟩; rw [hc])
    refine bodyPost_ret (v := .agg #[.int .i64 u.op, .int .i64 u.w, .int .i64 u.k, .int .i64 u.a, .int .i64 u.b, .int .i64 u.c]) ?_ rfl ⟨rfl, ?_⟩
    · have h9 := HV.out
      rw [HK.out] at h9
      simp at h9
      subst h9
      simp [results, Try.results43, go_sem]
    · exact ((Below.refl _ _).alloc (Nat.le_refl _) _).alloc (by simp) _
  · have HK : Hid (cnt op = _) := hc
    obtain ⟨ja, rfl, hja, pa⟩ := HA.out (by omega)
    obtain ⟨jb, rfl, hjb, pb⟩ := HB.out (by omega)
    obtain ⟨jc, rfl, hjc, pc⟩ := HD.out (by omega)
    have hz1 : (ja : Int) < (len : Int) := by omega
    have hz2 : (jb : Int) < (len : Int) := by omega
    have hz3 : (jc : Int) < (len : Int) := by omega
    have hn0 : gp < w.heap.size := lt_of_cell (p := ⟨gp, ja, none⟩) pa
    have hn1 : gp < w.heap.size + 1 := by omega
    clear HA HB HD
    go_enter Try.func43, Try.ntmps43
    go_wp2_with (go_at_call 51; refine (iCount _ _).mono ?_; rintro e w' ⟨rfl, rfl⟩; rw [hc])
    refine bodyPost_ret (v := .agg #[.int .i64 u.op, .int .i64 u.w, .int .i64 u.k, .int .i64 u.a, .int .i64 u.b, .int .i64 u.c]) ?_ rfl ⟨rfl, ?_⟩
    · have h9 := HV.out
      rw [HK.out] at h9
      simp at h9
      subst h9
      simp [results, Try.results43, go_sem]
    · exact ((Below.refl _ _).alloc (Nat.le_refl _) _).alloc (by simp) _

end Go.Proofs.Ytebejleeadofcaa.Pg10
