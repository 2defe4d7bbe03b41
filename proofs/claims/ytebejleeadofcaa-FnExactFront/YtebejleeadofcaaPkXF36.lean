/- Small texts of mine, one behind the other. -/
import Derived.Test.YtebejleeadofcaaRows
import Derived.Test.YtebejleeadofcaaPkXF35
import Derived.Test.YtebejleeadofcaaFr1
import Derived.Test.YtebejleeadofcaaPkXF24
import Derived.Test.YtebejleeadofcaaPkXF3
import Derived.Test.YtebejleeadofcaaPkXF13
/- The program's turnedAll, oneBehindTheOther and quantOf. -/
namespace Go.Proofs.Ytebejleeadofcaa.Fq1
open Go.RowKit
open Nd0 Qa0 Qi0 Qi1 Qi2 Fr1
set_option linter.unusedVariables false

theorem findTAll (v b : Int) (w : World) : (method 202 75 (.agg #[.int .i64 v, .int .i64 b]) "loop.example/g00116/impl.turned").run Try.prog w = .ok (78, .agg #[.int .i64 v, .int .i64 b]) w := by kernel_rfl
theorem findTSome (v b : Int) (w : World) : (method 202 76 (.agg #[.int .i64 v, .int .i64 b]) "loop.example/g00116/impl.turned").run Try.prog w = .ok (81, .agg #[.int .i64 v, .int .i64 b]) w := by kernel_rfl

set_option maxRecDepth 100000 in
set_option maxHeartbeats 1000000 in
theorem iTAll (v b : Int) (w : World) : Calls Try.prog 78 #[.agg #[.int .i64 v, .int .i64 b]] w fun e w' => e = .returned (.iface 76 (.agg #[.int .i64 v, .int .i64 b])) ∧ Below w.heap.size w w' := by
  go_enter Try.func78, Try.ntmps78
  go_wp2
  go_ret
  exact ⟨rfl, (Below.refl _ _).alloc (Nat.le_refl _) _⟩
set_option maxRecDepth 100000 in
set_option maxHeartbeats 1000000 in
theorem iTSome (v b : Int) (w : World) : Calls Try.prog 81 #[.agg #[.int .i64 v, .int .i64 b]] w fun e w' => e = .returned (.iface 75 (.agg #[.int .i64 v, .int .i64 b])) ∧ Below w.heap.size w w' := by
  go_enter Try.func81, Try.ntmps81
  go_wp2
  go_ret
  exact ⟨rfl, (Below.refl _ _).alloc (Nat.le_refl _) _⟩

theorem turn_some (v b : Int) : turnQ ⟨false, v, b⟩ = ⟨true, v, b⟩ := rfl
theorem turn_all (v b : Int) : turnQ ⟨true, v, b⟩ = ⟨false, v, b⟩ := rfl

set_option maxRecDepth 100000 in
set_option maxHeartbeats 2000000 in
theorem iTurnedAll (w : World) (a : Option Addr) (q : List Qu) (c : Nat) (hN : Qvs w a q) (hl : q.length ≤ 1048576) :
    Calls Try.prog 40 #[.slice a q.length c] w fun e w' => (∃ v, e = .returned v ∧ Owi w' w.heap.size v (q.map turnQ)) ∧ Below w.heap.size w w' := by
  have HN : Hid (Qvs w a q) := hN
  clear hN
  have HAL : Hid (Below w.heap.size w (w.alloc (.cells #[] 48))) := (Below.refl _ _).alloc (Nat.le_refl _) _
  have HO0 : Hid (Owi (w.alloc (.cells #[] 48)) w.heap.size (.slice (some ⟨w.heap.size, 0, none⟩) 0 0) []) := Owi.lit w _ (Nat.le_refl _)
  go_enter Try.func40, Try.ntmps40
  go_wp2
  go_loopw [3, 9] (fun v i wr => ∃ k : Nat, k ≤ q.length ∧ i = .int .i64 k ∧ Owi wr w.heap.size v ((q.map turnQ).take k) ∧ Below w.heap.size w wr) (fun _ i _ => q.length - (intOf i).toNat)
  case atStart => exact ⟨0, Nat.zero_le _, rfl, by rw [List.take_zero]; exact HO0.out, HAL.out⟩
  case round =>
    obtain ⟨k, hk, rfl, ho, hb⟩ := hrel
    have HO : Hid (Owi wr w.heap.size u3 ((q.map turnQ).take k)) := ho
    have HB : Hid (Below w.heap.size w wr) := hb
    have hbs : w.heap.size ≤ wr.heap.size := hb.size
    have HTL : Hid (((q.map turnQ).take k).length = k) := by show _ = _; rw [List.length_take, List.length_map]; omega
    clear ho hb
    by_cases hlt : k < q.length
    · have hlz : (k : Int) < (q.length : Int) := by omega
      rcases (HN.out.below HB.out).2 with h0 | ⟨b, o, rfl, hc⟩
      · omega
      have p0 := hc k hlt
      clear hc
      have HT : Hid ((q.map turnQ).take (k + 1) = (q.map turnQ).take k ++ [turnQ q[k]]) := by
        show _ = _
        rw [List.take_succ_eq_append_getElem (by rw [List.length_map]; exact hlt), List.getElem_map]
      obtain ⟨x, hx⟩ : ∃ x, x = q[k] := ⟨_, rfl⟩
      rw [← hx] at p0 HT
      clear hx
      generalize (q.map turnQ).take k = L at HO HTL HT
      obtain ⟨al, vr, bt⟩ := x
      cases al
      · rw [qv_some] at p0
        rw [turn_some] at HT
        have hm := findTSome vr bt
        go_wp2_with fail
        refine (iTSome vr bt _).mono ?_
        rintro e w1 ⟨rfl, hb1⟩
        have HB1 : Hid (Below w.heap.size w w1) := HB.out.trans (hb1.mono hbs)
        have HO1 : Hid (Owi w1 w.heap.size u3 L) := HO.out.kept (S := fun _ => False) (Kept.ofBelow hb1) (fun _ _ h => h)
        have hbs2 : w.heap.size ≤ w1.heap.size := HB1.out.size
        clear hb1 hm p0
        go_wp2_with (at_builtin; go_must (refine app_qv _ rfl _ _ rfl w.heap.size u3 L ⟨true, vr, bt⟩ (.iface 75 (.agg #[.int .i64 vr, .int .i64 bt])) rfl _ rfl rfl HO1.out hbs2 (by rw [HTL.out]; omega) rfl ?_; intro g5 cp5 w5 ho5 hk5 hg5; have HO5 : Hid (Owi w5 w.heap.size (.slice (some ⟨g5, 0, none⟩) (L.length + 1) cp5) (L ++ [⟨true, vr, bt⟩])) := ho5; have HB5 : Hid (Below w.heap.size w w5) := HB1.out.trans (hk5.below (fun b hb => (HO1.out.lt b hb).1) hbs2); clear ho5 hk5 hg5))
        go_roundw
        case rel => exact ⟨k + 1, by omega, by go_num, by rw [HT.out]; exact HO5.out, HB5.out⟩
        case measure => simp [intOf]; omega
      · rw [qv_all] at p0
        rw [turn_all] at HT
        have hm := findTAll vr bt
        go_wp2_with fail
        refine (iTAll vr bt _).mono ?_
        rintro e w1 ⟨rfl, hb1⟩
        have HB1 : Hid (Below w.heap.size w w1) := HB.out.trans (hb1.mono hbs)
        have HO1 : Hid (Owi w1 w.heap.size u3 L) := HO.out.kept (S := fun _ => False) (Kept.ofBelow hb1) (fun _ _ h => h)
        have hbs2 : w.heap.size ≤ w1.heap.size := HB1.out.size
        clear hb1 hm p0
        go_wp2_with (at_builtin; go_must (refine app_qv _ rfl _ _ rfl w.heap.size u3 L ⟨false, vr, bt⟩ (.iface 76 (.agg #[.int .i64 vr, .int .i64 bt])) rfl _ rfl rfl HO1.out hbs2 (by rw [HTL.out]; omega) rfl ?_; intro g5 cp5 w5 ho5 hk5 hg5; have HO5 : Hid (Owi w5 w.heap.size (.slice (some ⟨g5, 0, none⟩) (L.length + 1) cp5) (L ++ [⟨false, vr, bt⟩])) := ho5; have HB5 : Hid (Below w.heap.size w w5) := HB1.out.trans (hk5.below (fun b hb => (HO1.out.lt b hb).1) hbs2); clear ho5 hk5 hg5))
        go_roundw
        case rel => exact ⟨k + 1, by omega, by go_num, by rw [HT.out]; exact HO5.out, HB5.out⟩
        case measure => simp [intOf]; omega
    · have HE : Hid ((q.map turnQ).take k = q.map turnQ) := by show _ = _; rw [List.take_of_length_le (by rw [List.length_map]; omega)]
      go_wp2
      go_ret
      exact ⟨⟨_, rfl, by rw [← HE.out]; exact HO.out⟩, HB.out⟩

set_option maxRecDepth 100000 in
set_option maxHeartbeats 2000000 in
theorem iOneBehind (w : World) (a1 a2 : Option Addr) (p q L : List Qu) (hL : p ++ q = L) (c1 c2 : Nat) (h1 : Qvs w a1 p) (h2 : Qvs w a2 q) (hl1 : p.length ≤ 1000) (hl2 : q.length ≤ 1000) :
    Calls Try.prog 39 #[.slice a1 p.length c1, .slice a2 q.length c2] w fun e w' => (∃ g c', e = .returned (.slice (some ⟨g, 0, none⟩) L.length c') ∧ Owi w' w.heap.size (.slice (some ⟨g, 0, none⟩) L.length c') L) ∧ Below w.heap.size w w' := by
  have hb0 : Below w.heap.size w (w.alloc (.cells #[] 48)) := (Below.refl _ _).alloc (Nat.le_refl _) _
  have HAL : Hid (Below w.heap.size w (w.alloc (.cells #[] 48))) := hb0
  have HO0 : Hid (Owi (w.alloc (.cells #[] 48)) w.heap.size (.slice (some ⟨w.heap.size, 0, none⟩) 0 0) []) := Owi.lit w _ (Nat.le_refl _)
  have H1 : Hid (Qvs (w.alloc (.cells #[] 48)) a1 p) := h1.below hb0
  have H2 : Hid (Qvs w a2 q) := h2
  have HLE : Hid (p ++ q = L) := hL
  clear hb0 h1 h2 hL
  go_enter Try.func39, Try.ntmps39
  go_wp2_with (at_builtin; go_must (first
    | (refine app_opt _ rfl _ _ rfl w.heap.size w.heap.size 0 [] p p rfl a1 c1 _ _ rfl rfl rfl rfl H1.out HO0.out (by simp) (by simp; omega) ?_
       intro g4 cp4 w4 ho4 hk4
       have HO4 : Hid (Owi w4 w.heap.size (.slice (some ⟨g4, 0, none⟩) p.length cp4) p) := ho4
       have HB4 : Hid (Below w.heap.size w w4) := HAL.out.trans (hk4.below (fun k hk => by cases hk; exact Nat.le_refl _) (by simp))
       have hs4 : w.heap.size ≤ w4.heap.size := HB4.out.size
       clear ho4 hk4 HAL H1 HO0)
    | (refine app_opt _ rfl _ _ rfl w.heap.size g4 cp4 p q L HLE.out a2 c2 _ _ rfl rfl rfl rfl (H2.out.below HB4.out) HO4.out hs4 (by omega) ?_
       intro g5 cp5 w5 ho5 hk5
       have HO5 : Hid (Owi w5 w.heap.size (.slice (some ⟨g5, 0, none⟩) L.length cp5) L) := ho5
       have HB5 : Hid (Below w.heap.size w w5) := HB4.out.trans (hk5.below (fun k hk => by cases hk; exact (HO4.out.lt g4 rfl).1) hs4)
       clear ho5 hk5)))
  go_ret
  exact ⟨⟨_, _, rfl, HO5.out⟩, HB5.out⟩

set_option maxRecDepth 100000 in
set_option maxHeartbeats 1000000 in
theorem results_quant {w : World} {g : Nat} {x : Qu} {tmps : Array Value} (hp : tmps.getD 2 undef = .pointer (some ⟨g, 0, none⟩)) (h : QuAt w g 0 x) :
    (results Try.f23 tmps).run Try.prog w = .ok (.agg #[.bool x.all, .int .i64 x.vr, .int .i64 x.bits]) w := by
  have hr : w.rangeAt g 0 [.bool x.all, .int .i64 x.vr, .int .i64 x.bits] := fun j v hv => by
    rw [Nat.zero_add]
    have hj : j < 3 := by
      have := (List.getElem?_eq_some_iff.1 hv).1
      simpa using this
    obtain ⟨c0, c1, c2⟩ := h
    rcases (show j = 0 ∨ j = 1 ∨ j = 2 by omega) with h' | h' | h' <;> subst h'
    · rw [← hv]; exact c0
    · rw [← hv]; exact c1
    · rw [← hv]; exact c2
  have hl := run_loadVar_mid (P := Try.prog) w g 0 50 _ _ hr Try.underlying50 rfl rfl
  have hp' : tmps[2]?.getD undef = .pointer (some ⟨g, 0, none⟩) := by simpa using hp
  simp [results, hp', asAddr, hl]

theorem qu_set {w : World} {g : Nat} {v0 v1 v2 : Value} (h0 : w.cell? ⟨g, 0, none⟩ = some v0) (h1 : w.cell? ⟨g, 1, none⟩ = some v1) (h2 : w.cell? ⟨g, 2, none⟩ = some v2) (x : Qu) :
    QuAt (((w.setCell ⟨g, 0, none⟩ (.bool x.all)).setCell ⟨g, 1, none⟩ (.int .i64 x.vr)).setCell ⟨g, 2, none⟩ (.int .i64 x.bits)) g 0 x := by
  have n01 : (⟨g, 0, none⟩ : Addr) ≠ ⟨g, 1, none⟩ := by simp
  have n02 : (⟨g, 0, none⟩ : Addr) ≠ ⟨g, 2, none⟩ := by simp
  have n12 : (⟨g, 1, none⟩ : Addr) ≠ ⟨g, 2, none⟩ := by simp
  refine ⟨?_, ?_, ?_⟩
  · rw [set_other n02.symm, set_other n01.symm, set_same h0]
  · rw [set_other n12.symm]
    exact set_same (by rw [set_other n01]; exact h1)
  · exact set_same (by rw [set_other n12, set_other n02]; exact h2)

theorem keep3 {B g : Nat} {w : World} (hg : B ≤ g) (hs : B ≤ w.heap.size) (a b c : Value) : Below B w (((w.setCell ⟨g, 0, none⟩ a).setCell ⟨g, 1, none⟩ b).setCell ⟨g, 2, none⟩ c) := by
  have k1 : Kept (fun k => k = g) w (w.setCell ⟨g, 0, none⟩ a) := (Kept.refl (fun k => k = g) w).setCell (p := ⟨g, 0, none⟩) rfl _
  have k2 : Kept (fun k => k = g) w ((w.setCell ⟨g, 0, none⟩ a).setCell ⟨g, 1, none⟩ b) := k1.setCell (p := ⟨g, 1, none⟩) rfl _
  have k3 : Kept (fun k => k = g) w (((w.setCell ⟨g, 0, none⟩ a).setCell ⟨g, 1, none⟩ b).setCell ⟨g, 2, none⟩ c) := k2.setCell (p := ⟨g, 2, none⟩) rfl _
  exact k3.below (fun k hk => by cases hk; exact hg) hs

set_option maxRecDepth 100000 in
set_option maxHeartbeats 2000000 in
theorem iQuantOf (x : Qu) (w : World) :
    Calls Try.prog 23 #[qv x] w fun e w' => e = .returned (.agg #[.bool x.all, .int .i64 x.vr, .int .i64 x.bits]) ∧ Below w.heap.size w w' := by
  obtain ⟨al, v, b⟩ := x
  obtain ⟨W, hW⟩ : ∃ W : World, W = w.alloc (.cells #[.bool false, .int .i64 0, .int .i64 0] 50) := ⟨_, rfl⟩
  obtain ⟨g, hg⟩ : ∃ g : Nat, g = w.heap.size := ⟨_, rfl⟩
  have HBW : Hid (Below w.heap.size w W) := by rw [hW]; exact (Below.refl _ _).alloc (Nat.le_refl _) _
  have HQA : Hid ((W.cell? ⟨g, 0, none⟩ = some (.bool false) ∧ W.cell? ⟨g, 1, none⟩ = some (.int .i64 0) ∧ W.cell? ⟨g, 2, none⟩ = some (.int .i64 0)) ∧ (∀ j, W.frozen? ⟨g, j, none⟩ = false) ∧ g < W.heap.size) := by
    rw [hW, hg]
    exact ⟨⟨by rw [World.cell?_alloc_new]; rfl, by rw [World.cell?_alloc_new]; rfl, by rw [World.cell?_alloc_new]; rfl⟩, fun j => by simp, by simp⟩
  have HGW : Hid (w.heap.size ≤ g) := by show _ ≤ _; omega
  cases al
  · have HO : Hid (∀ w, Calls Try.prog 41 #[.iface 76 (.agg #[.int .i64 v, .int .i64 b])] w fun e w' => e = .returned (.int .i64 20) ∧ w' = w) := fun w => iOpOf ⟨false, v, b⟩ w
    have hm := findSome v b
    rw [qv_some]
    go_enter Try.func23, Try.ntmps23
    go_wp2_with fail
    rw [← hW]
    refine (iVarSome v b W).mono ?_
    rintro e w1 ⟨rfl, hb1⟩
    have HB1 : Hid (Below w.heap.size w w1) := HBW.out.trans (hb1.mono HBW.out.size)
    have q0 : w1.cell? ⟨g, 0, none⟩ = some (.bool false) := by rw [hb1.cell HQA.out.2.2]; exact HQA.out.1.1
    have q1 : w1.cell? ⟨g, 1, none⟩ = some (.int .i64 0) := by rw [hb1.cell HQA.out.2.2]; exact HQA.out.1.2.1
    have q2 : w1.cell? ⟨g, 2, none⟩ = some (.int .i64 0) := by rw [hb1.cell HQA.out.2.2]; exact HQA.out.1.2.2
    have f0 : w1.frozen? ⟨g, 0, none⟩ = false := by rw [hb1.frozen HQA.out.2.2]; exact HQA.out.2.1 0
    have f1 : w1.frozen? ⟨g, 1, none⟩ = false := by rw [hb1.frozen HQA.out.2.2]; exact HQA.out.2.1 1
    have f2 : w1.frozen? ⟨g, 2, none⟩ = false := by rw [hb1.frozen HQA.out.2.2]; exact HQA.out.2.1 2
    rw [← hg]
    clear hb1 hW hm hg
    go_wp2_with (go_at_call 41; refine (HO.out _).mono ?_; rintro e w' ⟨rfl, hw'⟩; have hw'' := hw'.symm; clear hw'; subst hw'')
    have HQ9 := qu_set q0 q1 q2 ⟨false, v, b⟩
    have HB9 := HB1.out.trans (keep3 HGW.out HB1.out.size (.bool false) (.int .i64 v) (.int .i64 b))
    dsimp only at HQ9
    refine bodyPost_ret (v := .agg #[.bool false, .int .i64 v, .int .i64 b]) (results_quant (x := ⟨false, v, b⟩) rfl HQ9) rfl ⟨rfl, HB9⟩
  · have HO : Hid (∀ w, Calls Try.prog 41 #[.iface 75 (.agg #[.int .i64 v, .int .i64 b])] w fun e w' => e = .returned (.int .i64 19) ∧ w' = w) := fun w => iOpOf ⟨true, v, b⟩ w
    have hm := findAll v b
    rw [qv_all]
    go_enter Try.func23, Try.ntmps23
    go_wp2_with fail
    rw [← hW]
    refine (iVarAll v b W).mono ?_
    rintro e w1 ⟨rfl, hb1⟩
    have HB1 : Hid (Below w.heap.size w w1) := HBW.out.trans (hb1.mono HBW.out.size)
    have q0 : w1.cell? ⟨g, 0, none⟩ = some (.bool false) := by rw [hb1.cell HQA.out.2.2]; exact HQA.out.1.1
    have q1 : w1.cell? ⟨g, 1, none⟩ = some (.int .i64 0) := by rw [hb1.cell HQA.out.2.2]; exact HQA.out.1.2.1
    have q2 : w1.cell? ⟨g, 2, none⟩ = some (.int .i64 0) := by rw [hb1.cell HQA.out.2.2]; exact HQA.out.1.2.2
    have f0 : w1.frozen? ⟨g, 0, none⟩ = false := by rw [hb1.frozen HQA.out.2.2]; exact HQA.out.2.1 0
    have f1 : w1.frozen? ⟨g, 1, none⟩ = false := by rw [hb1.frozen HQA.out.2.2]; exact HQA.out.2.1 1
    have f2 : w1.frozen? ⟨g, 2, none⟩ = false := by rw [hb1.frozen HQA.out.2.2]; exact HQA.out.2.1 2
    rw [← hg]
    clear hb1 hW hm hg
    go_wp2_with (go_at_call 41; refine (HO.out _).mono ?_; rintro e w' ⟨rfl, hw'⟩; have hw'' := hw'.symm; clear hw'; subst hw'')
    have HQ9 := qu_set q0 q1 q2 ⟨true, v, b⟩
    have HB9 := HB1.out.trans (keep3 HGW.out HB1.out.size (.bool true) (.int .i64 v) (.int .i64 b))
    dsimp only at HQ9
    refine bodyPost_ret (v := .agg #[.bool true, .int .i64 v, .int .i64 b]) (results_quant (x := ⟨true, v, b⟩) rfl HQ9) rfl ⟨rfl, HB9⟩

end Go.Proofs.Ytebejleeadofcaa.Fq1

/- What the program's functions of chapter 2 are to do. -/
namespace Go.Proofs.Ytebejleeadofcaa.Lx1
open Go.RowKit
open Nd0 Nd3 Tm0 Tm1 Tm2 Tm3 Tm4 Tm5 Tm6 Tm11
/-- What the program's TermOk is to do. -/
def ITermOk : Prop := ∀ (w : World) (a : Option Addr) (l : List Nd) (c : Nat), Nodes w a l → l.length ≤ c → l.length ≤ 1048576 →
    Calls Try.prog 33 #[.slice a l.length c] w fun e w' => e = .returned (.bool (termOk l)) ∧ Below w.heap.size w w'
end Go.Proofs.Ytebejleeadofcaa.Lx1
namespace Go.Proofs.Ytebejleeadofcaa.Lx2
open Go.RowKit
open Nd0 Nd3 Tm0 Tm1 Tm2 Tm3 Tm4 Tm5 Tm6 Tm11
/-- What the program's Reached is to do. -/
def IReached : Prop := ∀ (w : World) (a : Option Addr) (l : List Nd) (c : Nat), Nodes w a l → l.length ≤ c → l.length ≤ 1048576 →
    Calls Try.prog 35 #[.slice a l.length c] w fun e w' => (∃ a' c', e = .returned (.slice a' (reachedL l).length c') ∧ WInts w' w.heap.size a' (reachedL l)) ∧ Below w.heap.size w w'
end Go.Proofs.Ytebejleeadofcaa.Lx2
namespace Go.Proofs.Ytebejleeadofcaa.Lx3
open Go.RowKit
open Nd0 Nd3 Tm0 Tm1 Tm2 Tm3 Tm4 Tm5 Tm6 Tm11
end Go.Proofs.Ytebejleeadofcaa.Lx3
namespace Go.Proofs.Ytebejleeadofcaa.Lx4
open Go.RowKit
open Nd0 Nd3 Tm0 Tm1 Tm2 Tm3 Tm4 Tm5 Tm6 Tm11
/-- What the program's Prune is to do. -/
def IPrune : Prop := ∀ (w : World) (a : Option Addr) (l : List Nd) (c : Nat), Nodes w a l → l.length ≤ c → l.length ≤ 1048576 →
    Calls Try.prog 44 #[.slice a l.length c] w fun e w' => (∃ a' c', e = .returned (.slice a' (pruneL l).length c') ∧ WNodes w' w.heap.size a' (pruneL l) ∧ (pruneL l).length ≤ c') ∧ Below w.heap.size w w'
end Go.Proofs.Ytebejleeadofcaa.Lx4
namespace Go.Proofs.Ytebejleeadofcaa.Lx6
open Go.RowKit
open Nd0 Nd3 Tm0 Tm1 Tm2 Tm3 Tm4 Tm5 Tm6 Tm11
/-- What the program's Sentence is to do. -/
def ISentence : Prop := ∀ (w : World) (a : Option Addr) (l : List Nd) (c : Nat), Nodes w a l → l.length ≤ c → l.length ≤ 1048576 →
    Calls Try.prog 21 #[.slice a l.length c] w fun e w' => e = .returned (.bool (sentB l)) ∧ Below w.heap.size w w'
end Go.Proofs.Ytebejleeadofcaa.Lx6
