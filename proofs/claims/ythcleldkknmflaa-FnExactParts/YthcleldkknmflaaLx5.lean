/- The walk of the exact law of Parts. -/
import Derived.Test.YthcleldkknmflaaKp0
import Derived.Test.YthcleldkknmflaaNd2
import Derived.Test.YthcleldkknmflaaNd3
import Derived.Test.YthcleldkknmflaaSp2
import Derived.Test.YthcleldkknmflaaPg2
namespace Go.Proofs.Ythcleldkknmflaa.Lx5
open Go.RowKit
open Nd0 Nd1 Nd2 Nd3 Tm0 Ap0 Sp2 Pg2
open Kp0
set_option linter.unusedVariables false

/-- A node that lies in a block of its own is there still. -/
theorem boxed {W wi : World} {n : Nd} {T : Nat} (hb : Below (W.heap.size + 1) (W.alloc (.cells #[.int .i64 n.op, .int .i64 n.w, .int .i64 n.k, .int .i64 n.a, .int .i64 n.b, .int .i64 n.c] T)) wi) :
    wi.cell? ⟨W.heap.size, 0, none⟩ = some (.int .i64 n.op) ∧ wi.cell? ⟨W.heap.size, 1, none⟩ = some (.int .i64 n.w) ∧ wi.cell? ⟨W.heap.size, 2, none⟩ = some (.int .i64 n.k) ∧ wi.cell? ⟨W.heap.size, 3, none⟩ = some (.int .i64 n.a) ∧ wi.cell? ⟨W.heap.size, 4, none⟩ = some (.int .i64 n.b) ∧ wi.cell? ⟨W.heap.size, 5, none⟩ = some (.int .i64 n.c) := by
  refine ⟨?_, ?_, ?_, ?_, ?_, ?_⟩
  all_goals
    rw [hb.cell (Nat.lt_succ_self _), World.cell?_alloc_new]
    rfl

set_option maxRecDepth 100000 in
set_option maxHeartbeats 4000000 in
theorem exParts (n : Nd) (w : World) :
    Calls Try.prog 6 #[.agg #[.int .i64 n.op, .int .i64 n.w, .int .i64 n.k, .int .i64 n.a, .int .i64 n.b, .int .i64 n.c]] w fun e w' => e = .returned (.bool true) ∧ Below w.heap.size w w' := by
  have hR : (parts n).length ≤ 1048576 := Nat.le_trans (parts_le n) (by omega)
  have hpl := parts_le n
  obtain ⟨w0, hw0⟩ : ∃ w0 : World, w0 = w.alloc (.cells #[.int .i64 n.op, .int .i64 n.w, .int .i64 n.k, .int .i64 n.a, .int .i64 n.b, .int .i64 n.c] 43) := ⟨_, rfl⟩
  have hs0 : w0.heap.size = w.heap.size + 1 := by rw [hw0]; simp
  have HS0 : Hid (w0.heap.size = w.heap.size + 1) := hs0
  have HB0 : Hid (Below w.heap.size w w0) := by rw [hw0]; exact (Below.refl _ _).alloc (Nat.le_refl _) _
  have HBOX : Hid (∀ wi, Below (w.heap.size + 1) w0 wi → wi.cell? ⟨w.heap.size, 0, none⟩ = some (.int .i64 n.op) ∧ wi.cell? ⟨w.heap.size, 1, none⟩ = some (.int .i64 n.w) ∧ wi.cell? ⟨w.heap.size, 2, none⟩ = some (.int .i64 n.k) ∧ wi.cell? ⟨w.heap.size, 3, none⟩ = some (.int .i64 n.a) ∧ wi.cell? ⟨w.heap.size, 4, none⟩ = some (.int .i64 n.b) ∧ wi.cell? ⟨w.heap.size, 5, none⟩ = some (.int .i64 n.c)) := by
    rw [hw0]; exact fun wi h => boxed h
  clear hs0
  go_enter Try.func6, Try.ntmps6
  go_wp2_with fail
  rw [← hw0]
  clear hw0
  refine (toNode _ _ _ _ _ _ _).mono ?_
  rintro e w1 ⟨rfl, hb1⟩
  have HB1 : Hid (Below (w.heap.size + 1) w0 w1) := HS0.out ▸ hb1
  clear hb1
  go_wp2_with fail
  refine (sParts n _).mono ?_
  rintro e w2 ⟨⟨a2, c2, rfl, hi2⟩, hb2⟩
  have HI2 : Hid (IntsIn w2 w1.heap.size w2.heap.size a2 (parts n)) := hi2.within
  have HB2 : Hid (Below (w.heap.size + 1) w0 w2) := keep HB1.out hb2 (by have := HB1.out.size; have := HS0.out; omega)
  have hs1 : w.heap.size + 1 ≤ w1.heap.size := by have := HB1.out.size; have := HS0.out; omega
  have hs12 : w1.heap.size ≤ w2.heap.size := hb2.size
  clear hi2 hb2
  obtain ⟨p0, p1, p2, p3, p4, p5⟩ := HBOX.out _ HB2.out
  go_wp2_with fail
  refine (toNode _ _ _ _ _ _ _).mono ?_
  rintro e w3 ⟨rfl, hb3⟩
  have HI3 : Hid (IntsIn w3 w1.heap.size w2.heap.size a2 (parts n)) := intsIn_below HI2.out hb3
  have HB3 : Hid (Below (w.heap.size + 1) w0 w3) := keep HB2.out hb3 (by omega)
  have hs23 : w2.heap.size ≤ w3.heap.size := hb3.size
  clear hb3 p0 p1 p2 p3 p4 p5
  go_wp2_with fail
  refine (iParts n _).mono ?_
  rintro e w4 ⟨⟨a4, c4, rfl, hi4⟩, hb4⟩
  have HI4 : Hid (IntsIn w4 w1.heap.size w2.heap.size a2 (parts n)) := intsIn_below HI3.out hb4
  have HG4 : Hid (IntsIn w4 w3.heap.size w4.heap.size a4 (parts n)) := hi4.within
  have HB4 : Hid (Below (w.heap.size + 1) w0 w4) := keep HB3.out hb4 (by omega)
  have hs34 : w3.heap.size ≤ w4.heap.size := hb4.size
  clear hi4 hb4
  go_wp2_with fail
  refine (eqIntS _ _ _ (parts n) _ _ HG4.out.wints.ints HI4.out.wints.ints).mono ?_
  rintro e w5 ⟨rfl, m5, rfl⟩
  have hd5 : Below w4.heap.size w4 (w4.drewN m5) := below_drewN (Below.refl _ _) _
  have HI5 : Hid (IntsIn (w4.drewN m5) w1.heap.size w2.heap.size a2 (parts n)) := intsIn_below HI4.out hd5
  have HG5 : Hid (IntsIn (w4.drewN m5) w3.heap.size w4.heap.size a4 (parts n)) := intsIn_below HG4.out hd5
  have HB5 : Hid (Below (w.heap.size + 1) w0 (w4.drewN m5)) := keep HB4.out hd5 (by omega)
  have HSZ5 : Hid ((w4.drewN m5).heap.size = w4.heap.size) := rfl
  clear hd5
  obtain ⟨w5, hw5⟩ : ∃ w5 : World, w5 = w4.drewN m5 := ⟨_, rfl⟩
  rw [← hw5] at HI5 HG5 HB5 HSZ5 ⊢
  clear hw5
  go_wp2_with fail
  refine (markIntS _ _ _ (parts n) _ HG5.out.wints _ (by omega) (by omega) hR).mono ?_
  rintro e w6 ⟨rfl, hi6, hk6⟩
  have HG6 : Hid (IntsIn w6 w3.heap.size w4.heap.size a4 (marks (parts n).length 1)) := HG5.out.again hi6 (marks_length _ _)
  have HI6 : Hid (IntsIn w6 w1.heap.size w2.heap.size a2 (parts n)) := HI5.out.kept hk6 (fun b h1 h2 h3 => by have := HG5.out.ats h3; omega)
  have HB6 : Hid (Below (w.heap.size + 1) w0 w6) := HB5.out.trans (hk6.below (fun b hb => by have := HG5.out.ats hb; omega) (by have := HSZ5.out; omega))
  have hs56 : w4.heap.size ≤ w6.heap.size := by have := hk6.size; have := HSZ5.out; omega
  clear hi6 hk6
  go_wp2_with fail
  refine (heldIntS _ _ (parts n).length _ 1 HG6.out.wints.ints (by omega) (by omega) hR).mono ?_
  rintro e w7 ⟨rfl, rfl⟩
  have hk2 : ¬ (1 : Int) + ((parts n).length : Int) < 0 := by omega
  obtain ⟨p0, p1, p2, p3, p4, p5⟩ := HBOX.out _ HB6.out
  go_wp2_with fail
  refine (toNode _ _ _ _ _ _ _).mono ?_
  rintro e w8 ⟨rfl, hb8⟩
  have HG8 : Hid (IntsIn w8 w3.heap.size w4.heap.size a4 (marks (parts n).length 1)) := intsIn_below HG6.out hb8
  have HI8 : Hid (IntsIn w8 w1.heap.size w2.heap.size a2 (parts n)) := intsIn_below HI6.out hb8
  have HB8 : Hid (Below (w.heap.size + 1) w0 w8) := keep HB6.out hb8 (by omega)
  have hs78 : w4.heap.size ≤ w8.heap.size := by have := hb8.size; omega
  clear hb8 p0 p1 p2 p3 p4 p5
  go_wp2_with fail
  refine (iParts n _).mono ?_
  rintro e w9 ⟨⟨a9, c9, rfl, hi9⟩, hb9⟩
  have HH9 : Hid (Ints w9 a9 (parts n)) := hi9.ints
  have HG9 : Hid (IntsIn w9 w3.heap.size w4.heap.size a4 (marks (parts n).length 1)) := intsIn_below HG8.out hb9
  have HI9 : Hid (IntsIn w9 w1.heap.size w2.heap.size a2 (parts n)) := intsIn_below HI8.out hb9
  have HB9 : Hid (Below (w.heap.size + 1) w0 w9) := keep HB8.out hb9 (by omega)
  have hs89 : w4.heap.size ≤ w9.heap.size := by have := hb9.size; omega
  clear hi9 hb9
  go_wp2_with fail
  refine (eqIntS _ _ _ (parts n) _ _ HH9.out HI9.out.wints.ints).mono ?_
  rintro e wx ⟨rfl, mx, rfl⟩
  have hdx : Below w9.heap.size w9 (w9.drewN mx) := below_drewN (Below.refl _ _) _
  have HGx : Hid (IntsIn (w9.drewN mx) w3.heap.size w4.heap.size a4 (marks (parts n).length 1)) := intsIn_below HG9.out hdx
  have HBx : Hid (Below (w.heap.size + 1) w0 (w9.drewN mx)) := keep HB9.out hdx (by omega)
  clear hdx
  obtain ⟨wx, hwx⟩ : ∃ wx : World, wx = w9.drewN mx := ⟨_, rfl⟩
  rw [← hwx] at HGx HBx ⊢
  clear hwx
  go_wp2_with fail
  refine (heldIntS _ _ (parts n).length _ 1 HGx.out.wints.ints (by omega) (by omega) hR).mono ?_
  rintro e wy ⟨rfl, rfl⟩
  go_wp2
  go_ret
  exact ⟨rfl, HB0.out.trans (HBx.out.mono (by omega))⟩

end Go.Proofs.Ythcleldkknmflaa.Lx5
