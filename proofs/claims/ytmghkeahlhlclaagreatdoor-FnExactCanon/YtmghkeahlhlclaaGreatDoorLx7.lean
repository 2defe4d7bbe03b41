/- The walks of the exact laws of ShowTerm, ReadTerm, Canon and Same, out of contracts of the program's. -/
import Derived.Test.YtmghkeahlhlclaaGreatDoorIc3
import Derived.Test.YtmghkeahlhlclaaGreatDoorPkB
namespace Go.Proofs.YtmghkeahlhlclaaGreatDoor.Lx7
open Go.RowKit
open Nd0 Nd1 Nd2 Nd3 Nd4 Nd5 Tm0 Tx0 Tx1 Tx4 Ss0 Ss1 Ss8 Ss10 Tb0 Tb1 Ic3
open Ws1 (ret_int ret_bool)
set_option linter.unusedVariables false

/-- Nodes that can be read, in a block below U. -/
def NodesLt (w : World) (U : Nat) (a : Option Addr) (l : List Nd) : Prop := Nodes w a l ∧ ∀ x, 0 < l.length → a = some x → x.block < U
theorem NodesLt.nodes {w : World} {U : Nat} {a : Option Addr} {l : List Nd} (h : NodesLt w U a l) : Nodes w a l := h.1
theorem NodesLt.of {w : World} {a : Option Addr} {l : List Nd} (h : Nodes w a l) : NodesLt w w.heap.size a l := by
  refine ⟨h, fun x h0 hx => ?_⟩
  rcases h.2 with e | ⟨b, o, rfl, hc⟩
  · omega
  · cases hx; exact (hc 0 h0).lt
theorem NodesLt.below {w w' : World} {U : Nat} {a : Option Addr} {l : List Nd} (h : NodesLt w U a l) (k : Below w.heap.size w w') : NodesLt w' U a l := ⟨h.1.below k, h.2⟩
theorem NodesLt.kept {w w' : World} {U : Nat} {a : Option Addr} {l : List Nd} (h : NodesLt w U a l) {S : Nat → Prop} (k : Kept S w w') (hs : ∀ b, True → b < U → ¬ S b) : NodesLt w' U a l := by
  refine ⟨?_, h.2⟩
  by_cases h0 : l.length = 0
  · exact ⟨h.1.1, .inl h0⟩
  · exact h.1.kept k (fun x hx => hs _ trivial (h.2 x (by omega) hx))
theorem put_short {t t' : List Nd} {n : Nd} {q i : Nat} (h : putL t n q = .ok (t', i)) (ht : t.length ≤ 80) : t'.length ≤ 80 := by
  unfold putL at h
  split at h
  · cases h; exact ht
  · split at h
    · split at h
      · cases h
      · cases h; simp; omega
    · cases h
/-- A reader's list never grows too long. -/
def Short (f : Nat) : Prop := ∀ (st st' : Rd) (i : Nat), rdL f st = .ok (st', i) → st.t.length ≤ 80 → st'.t.length ≤ 80
theorem parts_short {f : Nat} (hf : Short f) (p0 : Nat) : ∀ (c : Nat) (st s2 : Rd) (is : List Nat), partsL (rdL f) p0 c st = .ok (s2, is) → st.t.length ≤ 80 → s2.t.length ≤ 80 := by
  intro c
  induction c with
  | zero => intro st s2 is h ht; simp only [partsL] at h; cases h; exact ht
  | succ c ih =>
    intro st s2 is h ht
    simp only [partsL] at h
    split at h
    · cases h
    · rename_i s1 hb
      split at h
      · cases h
      · rename_i s3 i hr
        split at h
        · cases h
        · rename_i s4 js hp
          cases h
          obtain ⟨_, _, a3⟩ := blank_some hb
          exact ih _ _ _ hp (hf _ _ _ hr (by rw [a3]; exact ht))
theorem rd_short : ∀ f, Short f := by
  intro f
  induction f with
  | zero => intro st st' i h; cases h
  | succ f ih =>
    intro st st' i h ht
    simp only [rdL] at h
    split at h
    · unfold innerL at h
      split at h
      · cases h
      · split at h
        · cases h
        · rename_i s1 n hn
          split at h
          · cases h
          · rename_i s2 is hp
            split at h
            · cases h
            · split at h
              · split at h
                · cases h
                · rename_i t j hput
                  cases h
                  obtain ⟨x, _, _, e3, _⟩ := nums_local hn
                  exact put_short hput (parts_short ih st.p _ s1 s2 is hp (by rw [e3]; exact ht))
              · cases h
    · unfold leafL at h
      split at h
      · split at h
        · cases h
        · rename_i hput
          cases h; exact put_short hput ht
      · split at h
        · split at h
          · cases h
          · rename_i hput
            cases h; exact put_short hput ht
        · cases h
theorem read_le (s : List UInt8) : (readL s).1.length ≤ 80 := by
  unfold readL
  split
  · exact Nat.zero_le _
  · split
    · exact Nat.zero_le _
    · rename_i st i hr
      have := rd_short _ _ _ _ hr (by simp)
      split
      · simp only; rw [List.length_take]; omega
      · exact Nat.zero_le _
theorem canon_le (l : List Nd) : (canonL l).length ≤ 80 := by
  unfold canonL
  split
  · exact Nat.zero_le _
  · exact read_le _

theorem keep {B : Nat} {u v w : World} (h : Below B u v) (k : Below v.heap.size v w) (hB : B ≤ v.heap.size) : Below B u w := h.trans (k.mono hB)

set_option maxRecDepth 100000 in
set_option maxHeartbeats 4000000 in
theorem exCanon (hI : ICanon) (w : World) (hT : TabR w) (a : Option Addr) (l : List Nd) (c : Nat) (hN : Nodes w a l) :
    Calls Tryz.prog 5 #[.slice a l.length c] w fun e w' => e = .returned (.bool true) ∧ Below w.heap.size w w' := by
  have HTB : Hid (TabR w) := hT
  clear hT
  have HN : Hid (Nodes w a l) := hN
  have hm := hN.1
  clear hN
  by_cases hl : l.length ≤ 1048576
  · have hR : (canonL l).length ≤ 1048576 := Nat.le_trans (canon_le l) (by decide)
    go_enter Tryz.func5, Tryz.ntmps5
    go_wp2_with fail
    refine (szNodeS _ a l.length c _ (by omega) (by omega) hm).mono ?_
    rw [if_pos (by omega)]
    rintro e w1 ⟨rfl, rfl⟩
    have hp : 0 ≤ (1048576 : Int) - (l.length : Int) := by omega
    go_wp2_with fail
    refine (toNodeS _ a l c HN.out hl).mono ?_
    rintro e w2 ⟨rfl, hw2, hb2⟩
    have HW2 : Hid (WNodes w2 w1.heap.size (some ⟨w1.heap.size, 0, none⟩) l) := hw2
    have HB2 : Hid (Below w1.heap.size w1 w2) := hb2
    clear hw2 hb2
    go_wp2_with fail
    refine (sCanon _ _ l _ HW2.out.nodes).mono ?_
    rintro e w3 ⟨⟨a3, c3, rfl, hi3⟩, hb3⟩
    have HI3 : Hid (NodesLt w3 w3.heap.size a3 (canonL l)) := NodesLt.of hi3
    have HB3 : Hid (Below w1.heap.size w1 w3) := keep HB2.out hb3 HB2.out.size
    have hs23 : w2.heap.size ≤ w3.heap.size := hb3.size
    clear hi3 hb3
    go_wp2_with fail
    refine (toNodeS _ a l c (HN.out.below HB3.out) hl).mono ?_
    rintro e w4 ⟨rfl, hw4, hb4⟩
    have HX4 : Hid (NodesIn w4 w3.heap.size w4.heap.size (some ⟨w3.heap.size, 0, none⟩) l) := WNodes.within hw4
    have HI4 : Hid (NodesLt w4 w3.heap.size a3 (canonL l)) := HI3.out.below hb4
    have HB4 : Hid (Below w1.heap.size w1 w4) := keep HB3.out hb4 HB3.out.size
    have hs34 : w3.heap.size ≤ w4.heap.size := hb4.size
    clear hw4 hb4
    go_wp2_with fail
    refine (hI _ _ l _ (HTB.out.below HB4.out) HX4.out.nodes (Nat.le_refl _) hl).mono ?_
    rintro e w5 ⟨⟨a5, c5, rfl, hi5⟩, hb5⟩
    have HI5 : Hid (NodesIn w5 w4.heap.size w5.heap.size a5 (canonL l)) := WNodes.within hi5
    have HJ5 : Hid (NodesLt w5 w3.heap.size a3 (canonL l)) := HI4.out.below hb5
    have HX5 : Hid (NodesIn w5 w3.heap.size w4.heap.size (some ⟨w3.heap.size, 0, none⟩) l) := HX4.out.below hb5
    have HB5 : Hid (Below w1.heap.size w1 w5) := keep HB4.out hb5 HB4.out.size
    have hs45 : w4.heap.size ≤ w5.heap.size := hb5.size
    clear hi5 hb5
    go_wp2_with fail
    refine (eqNodeS _ _ _ (canonL l) _ _ HI5.out.nodes HJ5.out.nodes).mono ?_
    rintro e w6 ⟨rfl, hb6⟩
    have HI6 : Hid (NodesIn w6 w4.heap.size w5.heap.size a5 (canonL l)) := HI5.out.below hb6
    have HJ6 : Hid (NodesLt w6 w3.heap.size a3 (canonL l)) := HJ5.out.below hb6
    have HX6 : Hid (NodesIn w6 w3.heap.size w4.heap.size (some ⟨w3.heap.size, 0, none⟩) l) := HX5.out.below hb6
    have HB6 : Hid (Below w1.heap.size w1 w6) := keep HB5.out hb6 HB5.out.size
    clear hb6
    go_wp2_with fail
    refine (toNodeS _ a l c (HN.out.below HB6.out) hl).mono ?_
    rintro e w7 ⟨rfl, hw7, hb7⟩
    have HV7 : Hid (Nodes w7 (some ⟨w6.heap.size, 0, none⟩) l) := hw7.nodes
    have HI7 : Hid (NodesIn w7 w4.heap.size w5.heap.size a5 (canonL l)) := HI6.out.below hb7
    have HJ7 : Hid (NodesLt w7 w3.heap.size a3 (canonL l)) := HJ6.out.below hb7
    have HX7 : Hid (NodesIn w7 w3.heap.size w4.heap.size (some ⟨w3.heap.size, 0, none⟩) l) := HX6.out.below hb7
    have HB7 : Hid (Below w1.heap.size w1 w7) := keep HB6.out hb7 HB6.out.size
    clear hw7 hb7
    go_wp2_with fail
    refine (eqNodeS _ _ _ l _ _ HX7.out.nodes HV7.out).mono ?_
    rintro e w8 ⟨rfl, hb8⟩
    have HI8 : Hid (NodesIn w8 w4.heap.size w5.heap.size a5 (canonL l)) := HI7.out.below hb8
    have HJ8 : Hid (NodesLt w8 w3.heap.size a3 (canonL l)) := HJ7.out.below hb8
    have HX8 : Hid (NodesIn w8 w3.heap.size w4.heap.size (some ⟨w3.heap.size, 0, none⟩) l) := HX7.out.below hb8
    have HB8 : Hid (Below w1.heap.size w1 w8) := keep HB7.out hb8 HB7.out.size
    clear hb8
    go_wp2_with fail
    refine (markNodeS _ _ _ l _ HX8.out.wnodes _ (by omega) (by omega) hl).mono ?_
    rintro e w9 ⟨rfl, hw9, hk9⟩
    have HI9 : Hid (NodesIn w9 w4.heap.size w5.heap.size a5 (canonL l)) := HI8.out.kept hk9 (fun b h1 h2 h3 => by have := HX8.out.ats h3; omega)
    have HJ9 : Hid (NodesLt w9 w3.heap.size a3 (canonL l)) := HJ8.out.kept hk9 (fun b h1 h2 h3 => by have := HX8.out.ats h3; omega)
    have HB9 : Hid (Below w1.heap.size w1 w9) := HB8.out.trans (hk9.below (fun b hb => by have := HX8.out.ats hb; have := HB3.out.size; omega) HB8.out.size)
    clear hw9 hk9
    have hk1 : ¬ (1 : Int) + 6 * (l.length : Int) < 0 := by omega
    go_wp2_with fail
    refine (eqNodeS _ _ _ (canonL l) _ _ HI9.out.nodes HJ9.out.nodes).mono ?_
    rintro e wx ⟨rfl, hbx⟩
    have HIx : Hid (NodesIn wx w4.heap.size w5.heap.size a5 (canonL l)) := HI9.out.below hbx
    have HJx : Hid (NodesLt wx w3.heap.size a3 (canonL l)) := HJ9.out.below hbx
    have HBx : Hid (Below w1.heap.size w1 wx) := keep HB9.out hbx HB9.out.size
    clear hbx
    go_wp2_with fail
    refine (markNodeS _ _ _ (canonL l) _ HIx.out.wnodes _ (by omega) (by omega) hR).mono ?_
    rintro e wy ⟨rfl, hiy, hky⟩
    have HIy : Hid (NodesIn wy w4.heap.size w5.heap.size a5 (markN (canonL l).length 1)) := HIx.out.again hiy (markN_length _ _)
    have HJy : Hid (NodesLt wy w3.heap.size a3 (canonL l)) := HJx.out.kept hky (fun b h1 h2 h3 => by have := HIx.out.ats h3; omega)
    have HBy : Hid (Below w1.heap.size w1 wy) := HBx.out.trans (hky.below (fun b hb => by have := HIx.out.ats hb; have := HB4.out.size; omega) HBx.out.size)
    clear hiy hky
    go_wp2_with fail
    refine (heldNodeS _ _ (canonL l).length _ 1 HIy.out.nodes (by omega) (by omega) hR).mono ?_
    rintro e wz ⟨rfl, rfl⟩
    have hk2 : ¬ (1 : Int) + 6 * ((canonL l).length : Int) < 0 := by omega
    go_wp2_with fail
    refine (toNodeS _ a l c (HN.out.below HBy.out) hl).mono ?_
    rintro e va ⟨rfl, hwa, hba⟩
    have HWa : Hid (Nodes va (some ⟨wz.heap.size, 0, none⟩) l) := hwa.nodes
    have HIa : Hid (NodesIn va w4.heap.size w5.heap.size a5 (markN (canonL l).length 1)) := HIy.out.below hba
    have HJa : Hid (NodesLt va w3.heap.size a3 (canonL l)) := HJy.out.below hba
    have HBa : Hid (Below w1.heap.size w1 va) := keep HBy.out hba HBy.out.size
    clear hwa hba
    go_wp2_with fail
    refine (hI _ _ l _ (HTB.out.below HBa.out) HWa.out (Nat.le_refl _) hl).mono ?_
    rintro e vb ⟨⟨ab, cb, rfl, hib⟩, hbb⟩
    have HHb : Hid (Nodes vb ab (canonL l)) := hib.nodes
    have HIb : Hid (NodesIn vb w4.heap.size w5.heap.size a5 (markN (canonL l).length 1)) := HIa.out.below hbb
    have HJb : Hid (NodesLt vb w3.heap.size a3 (canonL l)) := HJa.out.below hbb
    have HBb : Hid (Below w1.heap.size w1 vb) := keep HBa.out hbb HBa.out.size
    clear hib hbb
    go_wp2_with fail
    refine (eqNodeS _ _ _ (canonL l) _ _ HHb.out HJb.out.nodes).mono ?_
    rintro e vc ⟨rfl, hbc⟩
    have HIc : Hid (NodesIn vc w4.heap.size w5.heap.size a5 (markN (canonL l).length 1)) := HIb.out.below hbc
    have HBc : Hid (Below w1.heap.size w1 vc) := keep HBb.out hbc HBb.out.size
    clear hbc
    go_wp2_with fail
    refine (heldNodeS _ _ (canonL l).length _ 1 HIc.out.nodes (by omega) (by omega) hR).mono ?_
    rintro e vd ⟨rfl, rfl⟩
    go_wp2
    go_ret
    exact ⟨rfl, HBc.out⟩
  · go_enter Tryz.func5, Tryz.ntmps5
    go_wp2_with fail
    refine (szNodeS _ a l.length c _ (by omega) (by omega) hm).mono ?_
    rw [if_neg (by omega)]
    rintro e w1 ⟨rfl, rfl⟩
    go_wp2
    go_ret
    exact ⟨rfl, Below.refl _ _⟩


end Go.Proofs.YtmghkeahlhlclaaGreatDoor.Lx7
