/- Small texts of mine, one behind the other. -/
import Derived.Lib.QuietBelow
import Derived.BigQuiet
import Derived.Test.YtnkkigoeffghdaaPk1517
import Derived.Test.YtnkkigoeffghdaaPk1521
import Derived.Test.YtnkkigoeffghdaaPk1522
import Derived.Test.YtnkkigoeffghdaaPk1513
/- The program's Rename. -/
namespace Go.Proofs.Ytnkkigoeffghdaa.Pb4
open Go.RowKit
open Nd0 Nd3 Pl1 Tm0 Tm1 Tm5 Tm7 Tm8 Pg1 Pg8 Aq0 Aq1 Aw2 Pb1
open Aw1 (nv)
open Lx1 (ITermOk)
open Pb3 (iTO)
set_option linter.unusedVariables false

/-- A node with another number. -/
def renF (G : Int → Int) (_ : Nat) (n : Nd) (_ : List Nd) : Nd := if nmd n then { n with k := G n.k } else n
/-- What a function of numbers tells, in every world that comes of w0, at the numbers of a list's variables. -/
def TellK (w0 : World) (k : Nat) (cap : Array Value) (Ok : Int → Prop) (G : Int → Int) : Prop :=
  ∀ (W : World) (x : Int), Ok x → Below w0.heap.size w0 W → Calls Try.prog k (#[.int .i64 x] ++ cap) W fun e w' => e = .returned (.int .i64 (G x)) ∧ Below W.heap.size W w'

set_option maxRecDepth 100000 in
theorem res_ren {w : World} {g : Nat} {n : Nd} {tmps : Array Value} (hp : tmps.getD 7 undef = .pointer (some ⟨g, 0, none⟩)) (h : NodeAt w g 0 n) :
    (results Try.f113 tmps).run Try.prog w = .ok (nv n) w := by
  have hr : w.rangeAt g 0 [.int .i64 n.op, .int .i64 n.w, .int .i64 n.k, .int .i64 n.a, .int .i64 n.b, .int .i64 n.c] := fun j v hv => by
    rw [Nat.zero_add]
    have hj : j < 6 := by
      have := (List.getElem?_eq_some_iff.1 hv).1
      simpa using this
    rcases (show j = 0 ∨ j = 1 ∨ j = 2 ∨ j = 3 ∨ j = 4 ∨ j = 5 by omega) with h' | h' | h' | h' | h' | h' <;> subst h'
    · rw [← hv]; exact h.c0
    · rw [← hv]; exact h.c1
    · rw [← hv]; exact h.c2
    · rw [← hv]; exact h.c3
    · rw [← hv]; exact h.c4
    · rw [← hv]; exact h.c5
  have hl := run_loadVar_mid (P := Try.prog) w g 0 55 _ _ hr Try.underlying55 rfl rfl
  have hp' : tmps[7]?.getD undef = .pointer (some ⟨g, 0, none⟩) := by simpa using hp
  simp [results, hp', asAddr, hl]

set_option maxRecDepth 100000 in
set_option maxHeartbeats 2000000 in
theorem iRen1 (i : Int) (n : Nd) (a : Option Addr) (m c : Nat) (w0 w : World) (b k2 : Nat) (cap2 : Array Value) (Ok : Int → Prop) (G : Int → Int) (hb : w.cell? ⟨b, 0, none⟩ = some (.func (.func k2) #[] cap2)) (hB : Below w0.heap.size w0 w)
    (hk2 : ∀ args w, (callFunc k2 args).run Try.prog w = .ok (.enter k2 args) w) (hT : TellK w0 k2 cap2 Ok G) (hok : nmd n = true → Ok n.k) (j : Nat) (ps : List Nd) :
    Calls Try.prog 113 (#[.int .i64 i, nv n, .slice a m c] ++ #[.pointer (some ⟨b, 0, none⟩)]) w fun e w' => e = .returned (nv (renF G j n ps)) ∧ Below w.heap.size w w' := by
  have hbl : b < w.heap.size := lt_of_cell (p := ⟨b, 0, none⟩) hb
  obtain ⟨W1, hW1⟩ : ∃ W1 : World, W1 = w.alloc (.cells #[.int .i64 n.op, .int .i64 n.w, .int .i64 n.k, .int .i64 n.a, .int .i64 n.b, .int .i64 n.c] 55) := ⟨_, rfl⟩
  obtain ⟨W, hW⟩ : ∃ W : World, W = W1.alloc (.cells #[.int .i64 0, .int .i64 0, .int .i64 0, .int .i64 0, .int .i64 0, .int .i64 0] 55) := ⟨_, rfl⟩
  have hs1 : W1.heap.size = w.heap.size + 1 := by rw [hW1]; simp
  have hs2 : W.heap.size = w.heap.size + 2 := by rw [hW]; simp [hs1]
  have HBW : Hid (Below w.heap.size w W) := by rw [hW, hW1]; exact ((Below.refl _ _).alloc (Nat.le_refl _) _).alloc (by simp) _
  have HG5 : Hid (NodeAt W w.heap.size 0 n ∧ ∀ j, W.frozen? ⟨w.heap.size, j, none⟩ = false) := by
    have h1 : NodeAt W1 w.heap.size 0 n := by rw [hW1]; exact ⟨by simp, by simp, by simp, by simp, by simp, by simp⟩
    have h2 : ∀ j, W1.frozen? ⟨w.heap.size, j, none⟩ = false := fun j => by rw [hW1]; simp
    have hbb : Below W1.heap.size W1 W := by rw [hW]; exact (Below.refl _ _).alloc (Nat.le_refl _) _
    exact ⟨h1.below hbb (by omega), fun j => by rw [hbb.frozen (by simp; omega)]; exact h2 j⟩
  have HG7 : Hid (NodeAt W (w.heap.size + 1) 0 Nd.zero ∧ ∀ j, W.frozen? ⟨w.heap.size + 1, j, none⟩ = false) := by
    rw [← hs1, hW]
    exact ⟨⟨by simp [Nd.zero], by simp [Nd.zero], by simp [Nd.zero], by simp [Nd.zero], by simp [Nd.zero], by simp [Nd.zero]⟩, fun j => by simp⟩
  have HFN : Hid (W.cell? ⟨b, 0, none⟩ = some (.func (.func k2) #[] cap2)) := (HBW.out.cell (p := ⟨b, 0, none⟩) hbl).trans hb
  have HE : Hid (nmd n = (n.op == 1 || quant n.op)) := rfl
  have HEND : Hid (∀ (w1 : World) (y : Nd), Kept (fun k => k = w.heap.size) W w1 → Below w.heap.size w (setNode w1 (w.heap.size + 1) 0 y)) := fun w1 y h => by
    have h1 := setNode_keptS (S := fun k => w.heap.size ≤ k) (b := w.heap.size + 1) (p := 0) (n := y) (by show _ ≤ _; omega) (h.mono (fun i hi => by have : i = w.heap.size := hi; show _ ≤ _; omega))
    exact HBW.out.trans (h1.below (fun k hk => hk) HBW.out.size)
  cases hq : (n.op == 1 || quant n.op)
  · have HO : Hid (renF G j n ps = n) := by show _ = _; unfold renF; rw [HE.out, hq]; rfl
    obtain ⟨r0, r1, r2, r3, r4, r5⟩ := HG7.out.1
    simp only [Nat.zero_add] at r1 r2 r3 r4 r5
    have f0 := HG7.out.2 0
    have f1 := HG7.out.2 1
    have f2 := HG7.out.2 2
    have f3 := HG7.out.2 3
    have f4 := HG7.out.2 4
    have f5 := HG7.out.2 5
    obtain ⟨q0, q1, q2, q3, q4, q5⟩ := HG5.out.1
    simp only [Nat.zero_add] at q1 q2 q3 q4 q5
    clear hs1 hs2
    go_enter Try.func113, Try.ntmps113
    go_upto_region 1 with fail
    rw [← hW1, ← hW]
    clear hW1 hW
    go_wp2_with (go_at_call 97; refine (iHas _ _).mono ?_; rintro e w' ⟨rfl, rfl⟩; rw [hq])
    refine bodyPost_ret (v := nv n) (res_ren (g := w.heap.size + 1) rfl (setNode_same (w := w') (b := w.heap.size + 1) (p := 0) HG7.out.1)) rfl ?_
    rw [HO.out]
    exact ⟨rfl, HEND.out _ n (Kept.refl _ _)⟩
  · have hnm : nmd n = true := by rw [HE.out]; exact hq
    obtain ⟨Y, hY⟩ : ∃ Y : Int, Y = G n.k := ⟨_, rfl⟩
    have HO : Hid (renF G j n ps = { n with k := Y }) := by show _ = _; unfold renF; rw [hnm, hY]; rfl
    have HC : Hid (Calls Try.prog k2 (#[.int .i64 n.k] ++ cap2) W fun e w' => e = .returned (.int .i64 Y) ∧ Below W.heap.size W w') := by
      rw [hY]; exact hT W n.k (hok hnm) (hB.trans (HBW.out.mono hB.size))
    obtain ⟨q0, q1, q2, q3, q4, q5⟩ := HG5.out.1
    simp only [Nat.zero_add] at q1 q2 q3 q4 q5
    have fn := HFN.out
    clear hnm hY hT hok
    go_enter Try.func113, Try.ntmps113
    go_upto_region 1 with fail
    rw [← hW1, ← hW]
    clear hW1 hW
    go_wp2_with (go_at_call 97; refine (iHas _ _).mono ?_; rintro e w' ⟨rfl, rfl⟩; rw [hq])
    refine (HC.out).mono ?_
    rintro e w1 ⟨rfl, hb1⟩
    have h5l := HG5.out.1.lt
    have h7l := HG7.out.1.lt
    have HB1 : Hid (Below w'.heap.size w' w1) := hb1
    have H5 : Hid (NodeAt w1 w.heap.size 0 n) := HG5.out.1.below hb1 h5l
    have H7 : Hid (NodeAt w1 (w.heap.size + 1) 0 Nd.zero) := HG7.out.1.below hb1 h7l
    have z0 : w1.frozen? ⟨w.heap.size, 2, none⟩ = false := by rw [hb1.frozen h5l]; exact HG5.out.2 2
    have f0 : w1.frozen? ⟨w.heap.size + 1, 0, none⟩ = false := by rw [hb1.frozen h7l]; exact HG7.out.2 0
    have f1 : w1.frozen? ⟨w.heap.size + 1, 1, none⟩ = false := by rw [hb1.frozen h7l]; exact HG7.out.2 1
    have f2 : w1.frozen? ⟨w.heap.size + 1, 2, none⟩ = false := by rw [hb1.frozen h7l]; exact HG7.out.2 2
    have f3 : w1.frozen? ⟨w.heap.size + 1, 3, none⟩ = false := by rw [hb1.frozen h7l]; exact HG7.out.2 3
    have f4 : w1.frozen? ⟨w.heap.size + 1, 4, none⟩ = false := by rw [hb1.frozen h7l]; exact HG7.out.2 4
    have f5 : w1.frozen? ⟨w.heap.size + 1, 5, none⟩ = false := by rw [hb1.frozen h7l]; exact HG7.out.2 5
    clear q0 q1 q2 q3 q4 q5 hb1 h5l h7l fn
    obtain ⟨q0, q1, q2, q3, q4, q5⟩ := H5.out
    simp only [Nat.zero_add] at q1 q2 q3 q4 q5
    obtain ⟨r0, r1, r2, r3, r4, r5⟩ := H7.out
    simp only [Nat.zero_add] at r1 r2 r3 r4 r5
    go_wp2_with fail
    have HK : Hid (Kept (fun k => k = w.heap.size) w' (w1.setCell ⟨w.heap.size, 2, none⟩ (.int .i64 Y))) := ((Kept.ofBelow (S := fun k => k = w.heap.size) HB1.out).trans ((Kept.refl (fun k => k = w.heap.size) w1).setCell (p := ⟨w.heap.size, 2, none⟩) rfl _))
    have H7' : Hid (NodeAt (w1.setCell ⟨w.heap.size, 2, none⟩ (.int .i64 Y)) (w.heap.size + 1) 0 Nd.zero) := Pb3.nodeAt_kept (S := fun k => k = w.heap.size) H7.out ((Kept.refl (fun k => k = w.heap.size) w1).setCell (p := ⟨w.heap.size, 2, none⟩) rfl _) (by omega)
    have HS : Hid (NodeAt (setNode (w1.setCell ⟨w.heap.size, 2, none⟩ (.int .i64 Y)) (w.heap.size + 1) 0 { n with k := Y }) (w.heap.size + 1) 0 { n with k := Y }) := setNode_same H7'.out
    have HF : Hid (Below w.heap.size w (setNode (w1.setCell ⟨w.heap.size, 2, none⟩ (.int .i64 Y)) (w.heap.size + 1) 0 { n with k := Y })) := HEND.out _ _ HK.out
    clear H7' HK HEND H5 H7 HG5 HG7 HB1 HBW HFN q0 q1 q2 q3 q4 q5 r0 r1 r2 r3 r4 r5 f0 f1 f2 f3 f4 f5 z0
    refine bodyPost_ret (v := nv { n with k := Y }) (res_ren (g := w.heap.size + 1) (n := { n with k := Y }) rfl HS.out) rfl ?_
    rw [HO.out]
    exact ⟨rfl, HF.out⟩

/-- All nodes with other numbers. -/
def renG (G : Int → Int) (n : Nd) : Nd := renF G 0 n []
theorem renG_wk (G : Int → Int) (l : List Nd) : wk Nd.zero (renF G) l l.length = l.map (renG G) := wk_map Nd.zero (renG G) l

set_option maxRecDepth 100000 in
set_option maxHeartbeats 2000000 in
theorem iRenumbered (w : World) (a : Option Addr) (l : List Nd) (c k2 : Nat) (cap2 : Array Value) (Ok : Int → Prop) (G : Int → Int) (hN : Nodes w a l) (hD : Down l) (hl : l.length ≤ 1048576)
    (hk2 : ∀ args w, (callFunc k2 args).run Try.prog w = .ok (.enter k2 args) w) (hT : TellK w k2 cap2 Ok G) (hok : ∀ i, i < l.length → nmd (nth l i) = true → Ok (nth l i).k) :
    Calls Try.prog 74 #[.slice a l.length c, .func (.func k2) #[] cap2] w fun e w' => (∃ a', e = .returned (.slice a' l.length l.length) ∧ WNodes w' w.heap.size a' (l.map (renG G))) ∧ Below w.heap.size w w' := by
  obtain ⟨W, hW⟩ : ∃ W : World, W = w.alloc (.cells #[.func (.func k2) #[] cap2] 85) := ⟨_, rfl⟩
  have HB0 : Hid (Below w.heap.size w W) := by rw [hW]; exact (Below.refl _ _).alloc (Nat.le_refl _) _
  have HC0 : Hid (W.cell? ⟨w.heap.size, 0, none⟩ = some (.func (.func k2) #[] cap2)) := by show _ = _; rw [hW]; simp
  have HW : Hid (Calls Try.prog 67 #[.slice a l.length c, .func (.func 113) #[] #[.pointer (some ⟨w.heap.size, 0, none⟩)]] W fun e w' => (∃ a', e = .returned (.slice a' l.length l.length) ∧ WNodes w' W.heap.size a' (wk Nd.zero (renF G) l l.length)) ∧ Below W.heap.size W w') :=
    wNode _ _ (renF G) W a l c (hN.below HB0.out) hD hl (enters_of Try.func113 (by kernel_rfl) rfl) (fun W' i a' c' hi hb hI => iRen1 _ _ _ _ _ w W' w.heap.size k2 cap2 Ok G ((hb.cell (p := ⟨w.heap.size, 0, none⟩) (lt_of_cell HC0.out)).trans HC0.out) (HB0.out.trans (hb.mono HB0.out.size)) hk2 hT (hok i hi) _ _)
  clear hN hD hk2 hT hok
  go_enter Try.func74, Try.ntmps74
  go_wp2_with fail
  rw [← hW]
  refine (HW.out).mono ?_
  rintro e w1 ⟨⟨a', rfl, hw1⟩, hb1⟩
  rw [renG_wk] at hw1
  have HB1 : Hid (Below w.heap.size w w1) := HB0.out.trans (hb1.mono HB0.out.size)
  have HW1 : Hid (WNodes w1 w.heap.size a' (l.map (renG G))) := by
    obtain ⟨h1, h2⟩ := hw1
    refine ⟨h1, ?_⟩
    rcases h2 with h0 | ⟨b2, o2, ha, hB, hcc, hf⟩
    · exact .inl h0
    · exact .inr ⟨b2, o2, ha, by have := HB0.out.size; omega, hcc, hf⟩
  clear hw1 hb1 HW
  go_wp2
  go_ret
  exact ⟨⟨a', rfl, HW1.out⟩, HB1.out⟩

/-- The number u in place of v. -/
def swK (v u : Int) (x : Int) : Int := if x == v then u else x
theorem renG_sw (v u : Int) : renG (swK v u) = renN v u := by
  funext n
  unfold renG renF renN swK
  cases h : nmd n
  · rfl
  · cases h2 : n.k == v
    · simp
    · simp

theorem iSwK (w0 : World) (b4 b5 : Nat) (v u : Int) (h4 : w0.cell? ⟨b4, 0, none⟩ = some (.int .i64 v)) (h5 : w0.cell? ⟨b5, 0, none⟩ = some (.int .i64 u)) :
    TellK w0 75 #[.pointer (some ⟨b4, 0, none⟩), .pointer (some ⟨b5, 0, none⟩)] (fun _ => True) (swK v u) := by
  intro W x _ hB
  have c4 : W.cell? ⟨b4, 0, none⟩ = some (.int .i64 v) := (hB.cell (p := ⟨b4, 0, none⟩) (lt_of_cell h4)).trans h4
  have c5 : W.cell? ⟨b5, 0, none⟩ = some (.int .i64 u) := (hB.cell (p := ⟨b5, 0, none⟩) (lt_of_cell h5)).trans h5
  have HS : Hid (swK v u x = if x == v then u else x) := rfl
  cases hx : (x == v)
  all_goals
    rw [hx] at HS
    go_enter Try.func75, Try.ntmps75
    go_wp2
    go_ret
    rw [HS.out]
    exact ⟨rfl, Below.refl _ _⟩

theorem bit_and (s u : Nat) (hs : s < 256) (hu : u < 8) : bits .and .u8 (s : Int) ((2 ^ u : Nat) : Int) = ((s &&& 2 ^ u : Nat) : Int) ∧ (((s &&& 2 ^ u : Nat) : Int) != 0) = s.testBit u := by
  have h9 : 2 ^ u < 256 := Nat.pow_lt_pow_right (a := 2) (n := 8) (by omega) hu
  refine ⟨bits_and_u8_nat _ _ hs h9, ?_⟩
  rw [Bool.eq_iff_iff]
  simp only [bne_iff_ne, ne_eq]
  cases ht : s.testBit u
  · have e : s &&& 2 ^ u = 0 := by
      apply Nat.eq_of_testBit_eq
      intro v
      rw [Nat.testBit_and, Nat.testBit_two_pow, Nat.zero_testBit]
      by_cases hv : u = v
      · subst hv; rw [ht]; rfl
      · simp [hv]
    rw [e]; simp
  · have e : (s &&& 2 ^ u).testBit u = true := by
      rw [Nat.testBit_and, Nat.testBit_two_pow, ht]; simp
    constructor
    · intro _; rfl
    · intro _ h0
      have h1 : s &&& 2 ^ u = 0 := by omega
      rw [h1, Nat.zero_testBit] at e
      cases e

end Go.Proofs.Ytnkkigoeffghdaa.Pb4

/- The program's Rename, whole. -/
namespace Go.Proofs.Ytnkkigoeffghdaa.Pb5
open Go.RowKit
open Nd0 Nd3 Pl1 Tm0 Tm1 Tm5 Tm7 Tm8 Pg1 Pg8 Aq0 Aq1 Aw2 Pb1 Pb4
open Aw1 (nv)
open Lx1 (ITermOk)
open Go.Sort (grow)
set_option linter.unusedVariables false

theorem has_some {l : List Nd} (hM : Nm l) : ∀ j, j ≤ l.length → ∃ s : Nat, HasTo s l j := by
  intro j
  induction j with
  | zero => intro _; exact ⟨0, by omega, fun v hv => by simp [numTo, numB]⟩
  | succ j ih =>
    intro hj
    obtain ⟨s, hs⟩ := ih (by omega)
    obtain ⟨t, _, _, h⟩ := has_next hs (by omega) hM
    exact ⟨_, h⟩
theorem has_all {l : List Nd} (hM : Nm l) : ∃ s : Nat, HasN s l := by
  obtain ⟨s, h1, h2⟩ := has_some hM l.length (Nat.le_refl _)
  exact ⟨s, h1, fun v hv => by rw [h2 v hv, numTo_all]⟩
theorem has_one {l : List Nd} {s t : Nat} (hs : HasN s l) (ht : HasN t l) : s = t := by
  apply Nat.eq_of_testBit_eq
  intro v
  by_cases hv : v < 8
  · rw [hs.2 v hv, ht.2 v hv]
  · have h8 := Nat.pow_le_pow_right (n := 2) (by omega) (by omega : 8 ≤ v)
    rw [Nat.testBit_lt_two_pow (Nat.lt_of_lt_of_le hs.1 h8), Nat.testBit_lt_two_pow (Nat.lt_of_lt_of_le ht.1 h8)]

set_option maxRecDepth 100000 in
set_option maxHeartbeats 4000000 in
theorem iRename (hTO : ITermOk) (w : World) (a : Option Addr) (l : List Nd) (c : Nat) (v u : Int) (hN : Nodes w a l) (hcap : l.length ≤ c) (hlen : l.length ≤ 1048576) :
    Calls Try.prog 36 #[.slice a l.length c, .int .i64 v, .int .i64 u] w fun e w' => (∃ a' c', e = .returned (.tuple #[.slice a' (renO l v u).length c', .bool (renOk l v u)]) ∧ WNodes w' w.heap.size a' (renO l v u) ∧ (renO l v u).length ≤ c') ∧ Below w.heap.size w w' := by
  obtain ⟨W, hW⟩ : ∃ W : World, W = (w.alloc (.cells #[.int .i64 v] 3)).alloc (.cells #[.int .i64 u] 3) := ⟨_, rfl⟩
  have HB0 : Hid (Below w.heap.size w W) := by rw [hW]; exact ((Below.refl _ _).alloc (Nat.le_refl _) _).alloc (by simp) _
  have HC4 : Hid (W.cell? ⟨w.heap.size, 0, none⟩ = some (.int .i64 v)) := by show _ = _; rw [hW, World.cell?_alloc_old _ _ _ (by simp), World.cell?_alloc_new]; rfl
  have HC5 : Hid (W.cell? ⟨w.heap.size + 1, 0, none⟩ = some (.int .i64 u)) := by
    show _ = _
    have e : w.heap.size + 1 = (w.alloc (.cells #[.int .i64 v] 3)).heap.size := by simp
    rw [hW, e, World.cell?_alloc_new]; rfl
  have hB0s := HB0.out.size
  have HNW : Hid (∀ d os, Nodes (grow (redrawn W d) os) a l) := fun d os => (hN.below HB0.out).below (below_regrown W d os)
  have HQ1 : Hid (∀ d os, Calls Try.prog 51 #[.slice a l.length c] (grow (redrawn W d) os) fun e w'' => e = .returned (.bool (termOk l)) ∧ ∃ p : Regrown, w'' = grow (redrawn W p.d) p.os) := fun d os => Calls.regrown_of (hTO _ a l c (HNW.out d os) hcap hlen)
  have HQ2 : Hid (∀ d os, Calls Try.prog 72 #[.int .i64 u] (grow (redrawn W d) os) fun e w'' => e = .returned (.bool (decide (0 ≤ u ∧ u ≤ 7))) ∧ ∃ p : Regrown, w'' = grow (redrawn W p.d) p.os) := fun d os => Calls.regrown_of ((iVarOk u _).mono (by rintro e w' ⟨rfl, rfl⟩; exact ⟨rfl, Below.refl _ _⟩))
  have HNN : Hid (Nodes W a l) := hN.below HB0.out
  have x4 : ∀ d os, (grow (redrawn W d) os).cell? ⟨w.heap.size, 0, none⟩ = some (.int .i64 v) := fun d os => cell_regrown HC4.out d os
  have x5 : ∀ d os, (grow (redrawn W d) os).cell? ⟨w.heap.size + 1, 0, none⟩ = some (.int .i64 u) := fun d os => cell_regrown HC5.out d os
  have HOK : Hid (renOk l v u = (termOk l && decide (0 ≤ u ∧ u ≤ 7) && !((u != v) && numB l u.toNat))) := rfl
  have HRO : Hid (renO l v u = if renOk l v u then renL l v u else []) := rfl
  clear hTO hcap hN
  cases hT : termOk l
  · rw [hT] at HQ1 HOK
    have HF : Hid (renOk l v u = false) := by show _ = _; rw [HOK.out]; rfl
    clear HQ2 HOK hT
    go_enter Try.func36, Try.ntmps36
    go_upto_region 1 with fail
    rw [← hW]
    clear hW
    refine wp_region_quiet_below (by kernel_rfl) (by kernel_rfl) ?_
    iterate 21 (go_big_quiet_step ((go_at_call 51; exact HQ1.out _ _)))
    refine wpQuiet_nil ?_
    intro w4 hw9
    have hb4 : Below W.heap.size W w4 := by obtain ⟨pp, hw8⟩ := hw9; subst hw8; exact below_regrown W pp.d pp.os
    have HB4 : Hid (Below w.heap.size w w4) := HB0.out.trans (hb4.mono hB0s)
    clear hw9 hb4 x4 x5 HQ1 HNN HNW
    go_wp2
    go_ret2
    rw [HRO.out, HF.out]
    exact ⟨⟨_, _, rfl, ⟨Nat.zero_le _, .inl rfl⟩, Nat.zero_le _⟩, HB4.out.alloc HB4.out.size _⟩
  · have HT : Hid (termOk l = true) := hT
    rw [hT] at HQ1 HOK
    clear hT
    cases hV : decide (0 ≤ u ∧ u ≤ 7)
    · rw [hV] at HQ2 HOK
      have HF : Hid (renOk l v u = false) := by show _ = _; rw [HOK.out]; rfl
      clear HOK hV
      go_enter Try.func36, Try.ntmps36
      go_upto_region 1 with fail
      rw [← hW]
      clear hW
      refine wp_region_quiet_below (by kernel_rfl) (by kernel_rfl) ?_
      iterate 21 (go_big_quiet_step ((first | (go_at_call 51; exact HQ1.out _ _) | (go_at_call 72; exact HQ2.out _ _))))
      refine wpQuiet_nil ?_
      intro w4 hw9
      have hb4 : Below W.heap.size W w4 := by obtain ⟨pp, hw8⟩ := hw9; subst hw8; exact below_regrown W pp.d pp.os
      have HB4 : Hid (Below w.heap.size w w4) := HB0.out.trans (hb4.mono hB0s)
      clear hw9 hb4 x4 x5 HQ1 HQ2 HNN HNW
      go_wp2
      go_ret2
      rw [HRO.out, HF.out]
      exact ⟨⟨_, _, rfl, ⟨Nat.zero_le _, .inl rfl⟩, Nat.zero_le _⟩, HB4.out.alloc HB4.out.size _⟩
    · rw [hV] at HQ2 HOK
      have huv := of_decide_eq_true hV
      clear hV
      cases hne : (u != v)
      · have HF : Hid (renOk l v u = true) := by show _ = _; rw [HOK.out, hne]; rfl
        clear HOK
        go_enter Try.func36, Try.ntmps36
        go_upto_region 1 with fail
        rw [← hW]
        clear hW
        refine wp_region_quiet_below (by kernel_rfl) (by kernel_rfl) ?_
        iterate 21 (go_big_quiet_step ((first | (go_at_call 51; exact HQ1.out _ _) | (go_at_call 72; exact HQ2.out _ _))))
        refine wpQuiet_nil ?_
        intro w4 hw9
        have hb4 : Below W.heap.size W w4 := by obtain ⟨pp, hw8⟩ := hw9; subst hw8; exact below_regrown W pp.d pp.os
        have HB4 : Hid (Below w.heap.size w w4) := HB0.out.trans (hb4.mono hB0s)
        have HD4 : Hid (Calls Try.prog 74 #[.slice a l.length c, .func (.func 75) #[] #[.pointer (some ⟨w.heap.size, 0, none⟩), .pointer (some ⟨w.heap.size + 1, 0, none⟩)]] w4 fun e w' => (∃ a', e = .returned (.slice a' l.length l.length) ∧ WNodes w' w4.heap.size a' (l.map (renG (swK v u)))) ∧ Below w4.heap.size w4 w') :=
          iRenumbered w4 a l c _ _ (fun _ => True) (swK v u) (HNN.out.below hb4) (down_of HT.out) hlen (enters_of Try.func75 (by kernel_rfl) rfl) (iSwK w4 _ _ v u ((hb4.cell (p := ⟨w.heap.size, 0, none⟩) (lt_of_cell HC4.out)).trans HC4.out) ((hb4.cell (p := ⟨w.heap.size + 1, 0, none⟩) (lt_of_cell HC5.out)).trans HC5.out)) (fun _ _ _ => trivial)
        clear hw9 hb4 x4 x5 HQ1 HQ2 HNN HNW
        go_wp2_with fail
        refine (HD4.out).mono ?_
        rintro e w5 ⟨⟨a', rfl, hw5⟩, hb5⟩
        rw [renG_sw] at hw5
        have HB5 : Hid (Below w.heap.size w w5) := HB4.out.trans (hb5.mono HB4.out.size)
        have HW5 : Hid (WNodes w5 w.heap.size a' (renL l v u)) := by
          obtain ⟨h1, h2⟩ := hw5
          refine ⟨h1, ?_⟩
          rcases h2 with h0 | ⟨b2, o2, ha, hB, hcc, hf⟩
          · exact .inl h0
          · exact .inr ⟨b2, o2, ha, by have := HB4.out.size; omega, hcc, hf⟩
        have HLL : Hid ((renL l v u).length = l.length) := by show _ = _; unfold renL; simp
        clear hw5 hb5 HD4
        go_wp2
        go_ret2
        rw [HRO.out, HF.out, if_pos rfl, HLL.out]
        exact ⟨⟨_, _, rfl, HW5.out, Nat.le_refl _⟩, HB5.out⟩
      · obtain ⟨un, rfl⟩ := Int.eq_ofNat_of_zero_le huv.1
        have hu8 : un < 8 := by omega
        obtain ⟨s, hs⟩ := has_all (nm_of HT.out)
        obtain ⟨hand, hbit⟩ := bit_and s un hs.1 hu8
        rw [hs.2 un hu8] at hbit
        obtain ⟨P, hP⟩ : ∃ P : Nat, P = 2 ^ un := ⟨_, rfl⟩
        have HQ3 : Hid (∀ d os, Calls Try.prog 62 #[.slice a l.length c] (grow (redrawn W d) os) fun e w'' => e = .returned (.int .u8 s) ∧ ∃ p : Regrown, w'' = grow (redrawn W p.d) p.os) := fun d os => Calls.regrown_of ((iNumbersIn _ a l c (HNW.out d os) (nm_of HT.out) hlen).mono (by rintro e w' ⟨⟨s', rfl, hs'⟩, hb⟩; rw [has_one hs hs']; exact ⟨rfl, hb⟩))
        have HQ4 : Hid (∀ d os, Calls Try.prog 73 #[.int .i64 (un : Int)] (grow (redrawn W d) os) fun e w'' => e = .returned (.int .u8 (P : Int)) ∧ ∃ p : Regrown, w'' = grow (redrawn W p.d) p.os) := fun d os => Calls.regrown_of ((iJust un _ (by omega)).mono (by rintro e w' ⟨rfl, rfl⟩; rw [hP]; exact ⟨rfl, Below.refl _ _⟩))
        rw [← hP] at hand hbit
        clear hP hs huv
        rw [hne, Int.toNat_natCast] at HOK
        generalize s &&& P = z at hand hbit
        cases hnb : numB l un
        · rw [hnb] at hbit HOK
          have HF : Hid (renOk l v un = true) := by show _ = _; rw [HOK.out]; rfl
          clear HOK hnb
          go_enter Try.func36, Try.ntmps36
          go_upto_region 1 with fail
          rw [← hW]
          clear hW
          refine wp_region_quiet_below (by kernel_rfl) (by kernel_rfl) ?_
          iterate 21 (go_big_quiet_step ((first | (go_at_call 51; exact HQ1.out _ _) | (go_at_call 72; exact HQ2.out _ _) | (go_at_call 62; exact HQ3.out _ _) | (go_at_call 73; exact HQ4.out _ _))))
          refine wpQuiet_nil ?_
          intro w4 hw9
          have hb4 : Below W.heap.size W w4 := by obtain ⟨pp, hw8⟩ := hw9; subst hw8; exact below_regrown W pp.d pp.os
          have HB4 : Hid (Below w.heap.size w w4) := HB0.out.trans (hb4.mono hB0s)
          have HD4 : Hid (Calls Try.prog 74 #[.slice a l.length c, .func (.func 75) #[] #[.pointer (some ⟨w.heap.size, 0, none⟩), .pointer (some ⟨w.heap.size + 1, 0, none⟩)]] w4 fun e w' => (∃ a', e = .returned (.slice a' l.length l.length) ∧ WNodes w' w4.heap.size a' (l.map (renG (swK v un)))) ∧ Below w4.heap.size w4 w') :=
            iRenumbered w4 a l c _ _ (fun _ => True) (swK v un) (HNN.out.below hb4) (down_of HT.out) hlen (enters_of Try.func75 (by kernel_rfl) rfl) (iSwK w4 _ _ v un ((hb4.cell (p := ⟨w.heap.size, 0, none⟩) (lt_of_cell HC4.out)).trans HC4.out) ((hb4.cell (p := ⟨w.heap.size + 1, 0, none⟩) (lt_of_cell HC5.out)).trans HC5.out)) (fun _ _ _ => trivial)
          clear hw9 hb4 x4 x5 HQ1 HQ2 HNN HNW
          go_wp2_with fail
          refine (HD4.out).mono ?_
          rintro e w5 ⟨⟨a', rfl, hw5⟩, hb5⟩
          rw [renG_sw] at hw5
          have HB5 : Hid (Below w.heap.size w w5) := HB4.out.trans (hb5.mono HB4.out.size)
          have HW5 : Hid (WNodes w5 w.heap.size a' (renL l v un)) := by
            obtain ⟨h1, h2⟩ := hw5
            refine ⟨h1, ?_⟩
            rcases h2 with h0 | ⟨b2, o2, ha, hB, hcc, hf⟩
            · exact .inl h0
            · exact .inr ⟨b2, o2, ha, by have := HB4.out.size; omega, hcc, hf⟩
          have HLL : Hid ((renL l v un).length = l.length) := by show _ = _; unfold renL; simp
          clear hw5 hb5 HD4
          go_wp2
          go_ret2
          rw [HRO.out, HF.out, if_pos rfl, HLL.out]
          exact ⟨⟨_, _, rfl, HW5.out, Nat.le_refl _⟩, HB5.out⟩
        · rw [hnb] at hbit HOK
          have HF : Hid (renOk l v un = false) := by show _ = _; rw [HOK.out]; rfl
          clear HOK hnb
          go_enter Try.func36, Try.ntmps36
          go_upto_region 1 with fail
          rw [← hW]
          clear hW
          refine wp_region_quiet_below (by kernel_rfl) (by kernel_rfl) ?_
          iterate 21 (go_big_quiet_step ((first | (go_at_call 51; exact HQ1.out _ _) | (go_at_call 72; exact HQ2.out _ _) | (go_at_call 62; exact HQ3.out _ _) | (go_at_call 73; exact HQ4.out _ _))))
          refine wpQuiet_nil ?_
          intro w4 hw9
          have hb4 : Below W.heap.size W w4 := by obtain ⟨pp, hw8⟩ := hw9; subst hw8; exact below_regrown W pp.d pp.os
          have HB4 : Hid (Below w.heap.size w w4) := HB0.out.trans (hb4.mono hB0s)
          clear hw9 hb4 x4 x5 HQ1 HQ2 HNN HNW
          go_wp2
          go_ret2
          rw [HRO.out, HF.out]
          exact ⟨⟨_, _, rfl, ⟨Nat.zero_le _, .inl rfl⟩, Nat.zero_le _⟩, HB4.out.alloc HB4.out.size _⟩

end Go.Proofs.Ytnkkigoeffghdaa.Pb5
