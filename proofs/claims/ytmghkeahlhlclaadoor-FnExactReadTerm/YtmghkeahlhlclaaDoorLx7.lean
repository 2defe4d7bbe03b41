/- The walks of the exact laws of ShowTerm, ReadTerm, Canon and Same, out of contracts of the program's. -/
import Derived.Test.YtmghkeahlhlclaaDoorIc3
import Derived.Test.YtmghkeahlhlclaaDoorPkB
namespace Go.Proofs.YtmghkeahlhlclaaDoor.Lx7
open Go.RowKit
open Nd0 Nd1 Nd2 Nd3 Nd4 Nd5 Tm0 Tx0 Tx1 Tx4 Ss0 Ss1 Ss8 Ss10 Tb0 Tb1 Ic3
open Ws1 (ret_int ret_bool)
set_option linter.unusedVariables false

/-- Nodes that can be read, in a block below U. -/
def NodesLt (w : World) (U : Nat) (a : Option Addr) (l : List Nd) : Prop := Nodes w a l ∧ ∀ x, 0 < l.length → a = some x → x.block < U
theorem NodesLt.nodes {w : World} {U : Nat} {a : Option Addr} {l : List Nd} (h : NodesLt w U a l) : Nodes w a l := h.1
theorem NodesLt.of {w : World} {a : Option Addr} {l : List Nd} (h : Nodes w a l) : NodesLt w w.heap.size a l := by
  refine ⟨h, fun x h0 hx => ?_⟩
  rcases h.2 with e | ⟨b, o, rfl, hc⟩
  · omega
  · cases hx; exact (hc 0 h0).lt
theorem NodesLt.below {w w' : World} {U : Nat} {a : Option Addr} {l : List Nd} (h : NodesLt w U a l) (k : Below w.heap.size w w') : NodesLt w' U a l := ⟨h.1.below k, h.2⟩
theorem NodesLt.kept {w w' : World} {U : Nat} {a : Option Addr} {l : List Nd} (h : NodesLt w U a l) {S : Nat → Prop} (k : Kept S w w') (hs : ∀ b, True → b < U → ¬ S b) : NodesLt w' U a l := by
  refine ⟨?_, h.2⟩
  by_cases h0 : l.length = 0
  · exact ⟨h.1.1, .inl h0⟩
  · exact h.1.kept k (fun x hx => hs _ trivial (h.2 x (by omega) hx))
theorem put_short {t t' : List Nd} {n : Nd} {q i : Nat} (h : putL t n q = .ok (t', i)) (ht : t.length ≤ 80) : t'.length ≤ 80 := by
  unfold putL at h
  split at h
  · cases h; exact ht
  · split at h
    · split at h
      · cases h
      · cases h; simp; omega
    · cases h
/-- A reader's list never grows too long. -/
def Short (f : Nat) : Prop := ∀ (st st' : Rd) (i : Nat), rdL f st = .ok (st', i) → st.t.length ≤ 80 → st'.t.length ≤ 80
theorem parts_short {f : Nat} (hf : Short f) (p0 : Nat) : ∀ (c : Nat) (st s2 : Rd) (is : List Nat), partsL (rdL f) p0 c st = .ok (s2, is) → st.t.length ≤ 80 → s2.t.length ≤ 80 := by
  intro c
  induction c with
  | zero => intro st s2 is h ht; simp only [partsL] at h; cases h; exact ht
  | succ c ih =>
    intro st s2 is h ht
    simp only [partsL] at h
    split at h
    · cases h
    · rename_i s1 hb
      split at h
      · cases h
      · rename_i s3 i hr
        split at h
        · cases h
        · rename_i s4 js hp
          cases h
          obtain ⟨_, _, a3⟩ := blank_some hb
          exact ih _ _ _ hp (hf _ _ _ hr (by rw [a3]; exact ht))
theorem rd_short : ∀ f, Short f := by
  intro f
  induction f with
  | zero => intro st st' i h; cases h
  | succ f ih =>
    intro st st' i h ht
    simp only [rdL] at h
    split at h
    · unfold innerL at h
      split at h
      · cases h
      · split at h
        · cases h
        · rename_i s1 n hn
          split at h
          · cases h
          · rename_i s2 is hp
            split at h
            · cases h
            · split at h
              · split at h
                · cases h
                · rename_i t j hput
                  cases h
                  obtain ⟨x, _, _, e3, _⟩ := nums_local hn
                  exact put_short hput (parts_short ih st.p _ s1 s2 is hp (by rw [e3]; exact ht))
              · cases h
    · unfold leafL at h
      split at h
      · split at h
        · cases h
        · rename_i hput
          cases h; exact put_short hput ht
      · split at h
        · split at h
          · cases h
          · rename_i hput
            cases h; exact put_short hput ht
        · cases h
theorem read_le (s : List UInt8) : (readL s).1.length ≤ 80 := by
  unfold readL
  split
  · exact Nat.zero_le _
  · split
    · exact Nat.zero_le _
    · rename_i st i hr
      have := rd_short _ _ _ _ hr (by simp)
      split
      · simp only; rw [List.length_take]; omega
      · exact Nat.zero_le _
theorem canon_le (l : List Nd) : (canonL l).length ≤ 80 := by
  unfold canonL
  split
  · exact Nat.zero_le _
  · exact read_le _

theorem keep {B : Nat} {u v w : World} (h : Below B u v) (k : Below v.heap.size v w) (hB : B ≤ v.heap.size) : Below B u w := h.trans (k.mono hB)

set_option maxRecDepth 100000 in
set_option maxHeartbeats 4000000 in
theorem exShowTerm (hI : IShowTerm) (w : World) (hT : Tabs w) (a : Option Addr) (l : List Nd) (c : Nat) (hN : Nodes w a l) :
    Calls Tryd.prog 3 #[.slice a l.length c] w fun e w' => e = .returned (.bool true) ∧ Below w.heap.size w w' := by
  have HTB : Hid (Tabs w) := hT
  clear hT
  have HN : Hid (Nodes w a l) := hN
  have hm := hN.1
  clear hN
  by_cases hl : l.length ≤ 1048576
  · go_enter Tryd.func3, Tryd.ntmps3
    go_wp2_with fail
    refine (szNodeS _ a l.length c _ (by omega) (by omega) hm).mono ?_
    rw [if_pos (by omega)]
    rintro e w1 ⟨rfl, rfl⟩
    have hp : 0 ≤ (1048576 : Int) - (l.length : Int) := by omega
    go_wp2_with fail
    refine (toNodeS _ a l c HN.out hl).mono ?_
    rintro e w2 ⟨rfl, hw2, hb2⟩
    have HW2 : Hid (Nodes w2 (some ⟨w1.heap.size, 0, none⟩) l) := hw2.nodes
    have HB2 : Hid (Below w1.heap.size w1 w2) := hb2
    clear hw2 hb2
    go_wp2_with fail
    refine (sShowTerm _ _ l _ HW2.out).mono ?_
    rintro e w3 ⟨rfl, hb3⟩
    have HB3 : Hid (Below w1.heap.size w1 w3) := keep HB2.out hb3 HB2.out.size
    clear hb3
    go_wp2_with fail
    refine (toNodeS _ a l c (HN.out.below HB3.out) hl).mono ?_
    rintro e w4 ⟨rfl, hw4, hb4⟩
    have HX4 : Hid (Nodes w4 (some ⟨w3.heap.size, 0, none⟩) l) := hw4.nodes
    have HB4 : Hid (Below w1.heap.size w1 w4) := keep HB3.out hb4 HB3.out.size
    clear hw4 hb4
    go_wp2_with fail
    refine (hI _ _ l _ (HTB.out.below HB4.out) HX4.out (Nat.le_refl _) hl).mono ?_
    rintro e w5 ⟨rfl, hb5⟩
    have HX5 : Hid (Nodes w5 (some ⟨w3.heap.size, 0, none⟩) l) := HX4.out.below hb5
    have HB5 : Hid (Below w1.heap.size w1 w5) := keep HB4.out hb5 HB4.out.size
    clear hb5
    go_wp2_with fail
    refine (toNodeS _ a l c (HN.out.below HB5.out) hl).mono ?_
    rintro e w7 ⟨rfl, hw7, hb7⟩
    have HV7 : Hid (Nodes w7 (some ⟨w5.heap.size, 0, none⟩) l) := hw7.nodes
    have HX7 : Hid (Nodes w7 (some ⟨w3.heap.size, 0, none⟩) l) := HX5.out.below hb7
    have HB7 : Hid (Below w1.heap.size w1 w7) := keep HB5.out hb7 HB5.out.size
    clear hw7 hb7
    go_wp2_with fail
    refine (eqNodeS _ _ _ l _ _ HX7.out HV7.out).mono ?_
    rintro e w8 ⟨rfl, hb8⟩
    have HB8 : Hid (Below w1.heap.size w1 w8) := keep HB7.out hb8 HB7.out.size
    clear hb8
    go_wp2
    go_ret
    exact ⟨rfl, HB8.out⟩
  · go_enter Tryd.func3, Tryd.ntmps3
    go_wp2_with fail
    refine (szNodeS _ a l.length c _ (by omega) (by omega) hm).mono ?_
    rw [if_neg (by omega)]
    rintro e w1 ⟨rfl, rfl⟩
    go_wp2
    go_ret
    exact ⟨rfl, Below.refl _ _⟩

set_option maxRecDepth 100000 in
set_option maxHeartbeats 4000000 in
theorem exReadTerm (hI : IReadTerm) (w : World) (hT : TabR w) (S : ByteArray) (hS : S.size ≤ maxLen) :
    Calls Tryd.prog 4 #[.string S] w fun e w' => e = .returned (.bool true) ∧ Below w.heap.size w w' := by
  have HTB : Hid (TabR w) := hT
  clear hT
  unfold maxLen at hS
  by_cases hl : S.size ≤ 1048576
  · have hlz : ¬ (1048576 : Int) < (S.size : Int) := by omega
    have hR : (readL (tl S)).1.length ≤ 1048576 := Nat.le_trans (read_le _) (by decide)
    go_enter Tryd.func4, Tryd.ntmps4
    go_wp2_with fail
    refine (sReadTerm _ S (by omega)).mono ?_
    rintro e w1 ⟨a1, c1, rfl, hn1, hb1⟩
    have HJ1 : Hid (NodesLt w1 w1.heap.size a1 (readL (tl S)).1) := NodesLt.of hn1
    have HB1 : Hid (Below w.heap.size w w1) := hb1
    clear hn1 hb1
    go_wp2_with fail
    refine (hI _ S (HTB.out.below HB1.out) (by omega)).mono ?_
    rintro e w2 ⟨a2, c2, rfl, hn2, hb2, _⟩
    have HI2 : Hid (NodesIn w2 w1.heap.size w2.heap.size a2 (readL (tl S)).1) := WNodes.within hn2
    have HJ2 : Hid (NodesLt w2 w1.heap.size a1 (readL (tl S)).1) := HJ1.out.below hb2
    have HB2 : Hid (Below w.heap.size w w2) := keep HB1.out hb2 HB1.out.size
    have hs12 : w1.heap.size ≤ w2.heap.size := hb2.size
    have hs01 : w.heap.size ≤ w1.heap.size := HB1.out.size
    clear hn2 hb2 HJ1
    obtain ⟨rl, rc, rp, hr⟩ : ∃ rl rc rp, readL (tl S) = (rl, rc, rp) := ⟨_, _, _, rfl⟩
    rw [hr] at HI2 HJ2 hR ⊢
    simp only at HI2 HJ2 hR ⊢
    have HRR : Hid (readL (tl S) = (rl, rc, rp)) := hr
    clear hr
    go_wp2_with fail
    refine (eqNodeS _ _ _ rl _ _ HI2.out.nodes HJ2.out.nodes).mono ?_
    rintro e w3 ⟨rfl, hb3⟩
    have HI3 : Hid (NodesIn w3 w1.heap.size w2.heap.size a2 rl) := HI2.out.below hb3
    have HJ3 : Hid (NodesLt w3 w1.heap.size a1 rl) := HJ2.out.below hb3
    have HB3 : Hid (Below w.heap.size w w3) := keep HB2.out hb3 HB2.out.size
    clear hb3 HI2 HJ2
    go_wp2_with fail
    refine (markNodeS _ _ _ rl _ HI3.out.wnodes _ (by omega) (by omega) hR).mono ?_
    rintro e w4 ⟨rfl, hi4, hk4⟩
    have HI4 : Hid (NodesIn w4 w1.heap.size w2.heap.size a2 (markN rl.length 1)) := HI3.out.again hi4 (markN_length _ _)
    have HJ4 : Hid (NodesLt w4 w1.heap.size a1 rl) := HJ3.out.kept hk4 (fun b h1 h2 h3 => by have := HI3.out.ats h3; omega)
    have HB4 : Hid (Below w.heap.size w w4) := HB3.out.trans (hk4.below (fun b hb => by have := HI3.out.ats hb; omega) HB3.out.size)
    clear hi4 hk4
    go_wp2_with fail
    refine (heldNodeS _ _ rl.length _ 1 HI4.out.nodes (by omega) (by omega) hR).mono ?_
    rintro e w5 ⟨rfl, rfl⟩
    have hk2 : ¬ (1 : Int) + 6 * (rl.length : Int) < 0 := by omega
    go_wp2_with fail
    refine (hI _ S (HTB.out.below HB4.out) (by omega)).mono ?_
    rintro e w6 ⟨a6, c6, rfl, hn6, hb6, _⟩
    rw [HRR.out] at hn6 ⊢
    simp only at hn6 ⊢
    have HH6 : Hid (Nodes w6 a6 rl) := hn6.nodes
    have HI6 : Hid (NodesIn w6 w1.heap.size w2.heap.size a2 (markN rl.length 1)) := HI4.out.below hb6
    have HJ6 : Hid (NodesLt w6 w1.heap.size a1 rl) := HJ4.out.below hb6
    have HB6 : Hid (Below w.heap.size w w6) := keep HB4.out hb6 HB4.out.size
    clear hn6 hb6
    go_wp2_with fail
    refine (eqNodeS _ _ _ rl _ _ HH6.out HJ6.out.nodes).mono ?_
    rintro e w7 ⟨rfl, hb7⟩
    have HI7 : Hid (NodesIn w7 w1.heap.size w2.heap.size a2 (markN rl.length 1)) := HI6.out.below hb7
    have HB7 : Hid (Below w.heap.size w w7) := keep HB6.out hb7 HB6.out.size
    clear hb7
    go_wp2_with fail
    refine (heldNodeS _ _ rl.length _ 1 HI7.out.nodes (by omega) (by omega) hR).mono ?_
    rintro e w8 ⟨rfl, rfl⟩
    go_wp2
    go_ret
    exact ⟨rfl, HB7.out⟩
  · have hlz : (1048576 : Int) < (S.size : Int) := by omega
    go_enter Tryd.func4, Tryd.ntmps4
    go_wp2
    go_ret
    exact ⟨rfl, Below.refl _ _⟩

set_option maxRecDepth 100000 in
set_option maxHeartbeats 4000000 in
theorem exSame (hI : ISame) (w : World) (hT : Tabs w) (a a' : Option Addr) (l l' : List Nd) (c c' : Nat) (hN : Nodes w a l) (hN' : Nodes w a' l') :
    Calls Tryd.prog 5 #[.slice a l.length c, .slice a' l'.length c'] w fun e w' => e = .returned (.bool true) ∧ Below w.heap.size w w' := by
  have HTB : Hid (Tabs w) := hT
  clear hT
  have HN : Hid (Nodes w a l) := hN
  have HM : Hid (Nodes w a' l') := hN'
  have hm := hN.1
  have hm' := hN'.1
  clear hN hN'
  by_cases hl : l.length ≤ 1048576
  · go_enter Tryd.func5, Tryd.ntmps5
    go_wp2_with fail
    refine (szNodeS _ a l.length c _ (by omega) (by omega) hm).mono ?_
    rw [if_pos (by omega)]
    rintro e w1 ⟨rfl, rfl⟩
    have hp : 0 ≤ (1048576 : Int) - (l.length : Int) := by omega
    by_cases hl' : (l'.length : Int) ≤ 1048576 - (l.length : Int)
    · go_wp2_with fail
      refine (szNodeS _ a' l'.length c' _ (by omega) (by omega) hm').mono ?_
      rw [if_pos (by omega)]
      rintro e w1' ⟨rfl, rfl⟩
      have hp' : 0 ≤ (1048576 : Int) - (l.length : Int) - (l'.length : Int) := by omega
      have hl2 : l'.length ≤ 1048576 := by omega
      go_wp2_with fail
      refine (toNodeS _ a l c HN.out hl).mono ?_
      rintro e w2 ⟨rfl, hw2, hb2⟩
      have HA2 : Hid (Nodes w2 (some ⟨w1'.heap.size, 0, none⟩) l) := hw2.nodes
      have HB2 : Hid (Below w1'.heap.size w1' w2) := hb2
      clear hw2 hb2
      go_wp2_with fail
      refine (toNodeS _ a' l' c' (HM.out.below HB2.out) hl2).mono ?_
      rintro e w3 ⟨rfl, hw3, hb3⟩
      have HA3 : Hid (Nodes w3 (some ⟨w1'.heap.size, 0, none⟩) l) := HA2.out.below hb3
      have HC3 : Hid (Nodes w3 (some ⟨w2.heap.size, 0, none⟩) l') := hw3.nodes
      have HB3 : Hid (Below w1'.heap.size w1' w3) := keep HB2.out hb3 HB2.out.size
      clear hw3 hb3
      go_wp2_with fail
      refine (sSame _ _ _ l l' _ _ HA3.out HC3.out).mono ?_
      rintro e w4 ⟨rfl, hb4⟩
      have HB4 : Hid (Below w1'.heap.size w1' w4) := keep HB3.out hb4 HB3.out.size
      clear hb4
      go_wp2_with fail
      refine (toNodeS _ a l c (HN.out.below HB4.out) hl).mono ?_
      rintro e w5 ⟨rfl, hw5, hb5⟩
      have HA5 : Hid (Nodes w5 (some ⟨w4.heap.size, 0, none⟩) l) := hw5.nodes
      have HB5 : Hid (Below w1'.heap.size w1' w5) := keep HB4.out hb5 HB4.out.size
      clear hw5 hb5
      go_wp2_with fail
      refine (toNodeS _ a' l' c' (HM.out.below HB5.out) hl2).mono ?_
      rintro e w6 ⟨rfl, hw6, hb6⟩
      have HA6 : Hid (Nodes w6 (some ⟨w4.heap.size, 0, none⟩) l) := HA5.out.below hb6
      have HC6 : Hid (Nodes w6 (some ⟨w5.heap.size, 0, none⟩) l') := hw6.nodes
      have HB6 : Hid (Below w1'.heap.size w1' w6) := keep HB5.out hb6 HB5.out.size
      clear hw6 hb6
      go_wp2_with fail
      refine (hI _ _ _ l l' _ _ (HTB.out.below HB6.out) HA6.out HC6.out (Nat.le_refl _) (Nat.le_refl _) hl hl2).mono ?_
      rintro e w7 ⟨rfl, hb7⟩
      have HA7 : Hid (Nodes w7 (some ⟨w4.heap.size, 0, none⟩) l) := HA6.out.below hb7
      have HC7 : Hid (Nodes w7 (some ⟨w5.heap.size, 0, none⟩) l') := HC6.out.below hb7
      have HB7 : Hid (Below w1'.heap.size w1' w7) := keep HB6.out hb7 HB6.out.size
      clear hb7
      go_wp2_with fail
      refine (toNodeS _ a l c (HN.out.below HB7.out) hl).mono ?_
      rintro e w8 ⟨rfl, hw8, hb8⟩
      have HV8 : Hid (Nodes w8 (some ⟨w7.heap.size, 0, none⟩) l) := hw8.nodes
      have HA8 : Hid (Nodes w8 (some ⟨w4.heap.size, 0, none⟩) l) := HA7.out.below hb8
      have HC8 : Hid (Nodes w8 (some ⟨w5.heap.size, 0, none⟩) l') := HC7.out.below hb8
      have HB8 : Hid (Below w1'.heap.size w1' w8) := keep HB7.out hb8 HB7.out.size
      clear hw8 hb8
      go_wp2_with fail
      refine (eqNodeS _ _ _ l _ _ HA8.out HV8.out).mono ?_
      rintro e w9 ⟨rfl, hb9⟩
      have HC9 : Hid (Nodes w9 (some ⟨w5.heap.size, 0, none⟩) l') := HC8.out.below hb9
      have HB9 : Hid (Below w1'.heap.size w1' w9) := keep HB8.out hb9 HB8.out.size
      clear hb9
      go_wp2_with fail
      refine (toNodeS _ a' l' c' (HM.out.below HB9.out) hl2).mono ?_
      rintro e wa ⟨rfl, hwa, hba⟩
      have HVa : Hid (Nodes wa (some ⟨w9.heap.size, 0, none⟩) l') := hwa.nodes
      have HCa : Hid (Nodes wa (some ⟨w5.heap.size, 0, none⟩) l') := HC9.out.below hba
      have HBa : Hid (Below w1'.heap.size w1' wa) := keep HB9.out hba HB9.out.size
      clear hwa hba
      go_wp2_with fail
      refine (eqNodeS _ _ _ l' _ _ HCa.out HVa.out).mono ?_
      rintro e wb ⟨rfl, hbb⟩
      have HBb : Hid (Below w1'.heap.size w1' wb) := keep HBa.out hbb HBa.out.size
      clear hbb
      go_wp2
      go_ret
      exact ⟨rfl, HBb.out⟩
    · go_wp2_with fail
      refine (szNodeS _ a' l'.length c' _ (by omega) (by omega) hm').mono ?_
      rw [if_neg (by omega)]
      rintro e w1' ⟨rfl, rfl⟩
      go_wp2
      go_ret
      exact ⟨rfl, Below.refl _ _⟩
  · go_enter Tryd.func5, Tryd.ntmps5
    go_wp2_with fail
    refine (szNodeS _ a l.length c _ (by omega) (by omega) hm).mono ?_
    rw [if_neg (by omega)]
    rintro e w1 ⟨rfl, rfl⟩
    go_wp2
    go_ret
    exact ⟨rfl, Below.refl _ _⟩

end Go.Proofs.YtmghkeahlhlclaaDoor.Lx7
