/- The law of the halves. -/
import Derived.Test.YtkcbonocbdfbcaaDoorTds
import Derived.Test.YtkcbonocbdfbcaaDoorTa3
import Derived.Test.YtkcbonocbdfbcaaDoorTe3
import Derived.Test.YtkcbonocbdfbcaaDoorTe4
import Derived.Test.YtkcbonocbdfbcaaDoorTk0
namespace Go.Proofs.YtkcbonocbdfbcaaDoor.Lh1
open Go.RowKit
open Ta0 Ta1 Ta2 Ta3 Tc2 Tc5 Td1 Td2 Te1 Te3 Te4 Tk0 Tds
open Nd0 (Kept Ints WInts)
open Dr0 (Bytes)
open Ss0 (bs bs_size bs_app)
open Ss1 (tl bs_tl tl_bs)
set_option linter.unusedVariables false

set_option maxHeartbeats 400000 in
theorem lbig (w : World) (a : Option Addr) (len cap : Nat) (b : Bool) (hb : decide (1048576 < len) = b) :
    Calls Tryd.prog 6 #[.slice a len cap] w fun e w' => e = .returned (.bool b) ∧ w' = w := by
  have hz : decide ((1048576 : Int) < (len : Int)) = b := by rw [← hb]; rw [decide_eq_decide]; omega
  go_enter Tryd.func6, Tryd.ntmps6
  go_wp2
  go_ret
  exact ⟨by first | (rw [← hz]; rfl) | rfl, rfl⟩

/-- What the program tells of a string as a table of n bits. -/
def cu (n : Nat) (U : ByteArray) : Nat := cnt (fun p => (tl U).getD p 48 == 49) (2 ^ n)
def ku (n : Nat) (U : ByteArray) : Int := knw n (fun p => (tl U).getD p 48 == 49)
theorem sig_tab (n : Nat) (F : Nat → Bool) (p : Nat) (hp : p < 2 ^ n) : ((tl (bs (tab n F))).getD p 48 == 49) = F p := by
  have h2 : p < (tab n F).length := by rw [tab_length]; exact hp
  have e : (tl (bs (tab n F))).getD p 48 = sgn (F p) := by rw [tl_bs, ← tab_get n F p h2]; simp [List.getD, h2]
  rw [e]; cases F p <;> rfl
theorem cu_tab (n : Nat) (F : Nat → Bool) : cu n (bs (tab n F)) = cnt F (2 ^ n) := cnt_congr _ fun j hj => sig_tab n F j hj
theorem ku_tab (n : Nat) (F : Nat → Bool) : ku n (bs (tab n F)) = knw n F := by
  unfold ku knw
  rw [cnt_congr _ fun j hj => sig_tab n F j hj]

/-- What stands of the three tables. -/
structure HX (w : World) (q q1 q2 : Nat) (N n : Int) (S R T : ByteArray) (W : World) : Prop where
  t : Lay W q (.int .i64 N) (.string S)
  lo : Lay W q1 (.int .i64 n) (.string R)
  hi : Lay W q2 (.int .i64 n) (.string T)
  bel : Below w.heap.size w W
theorem HX.below {w : World} {q q1 q2 : Nat} {N n : Int} {S R T : ByteArray} {W W' : World} (h : HX w q q1 q2 N n S R T W) (k : Below W.heap.size W W') : HX w q q1 q2 N n S R T W' :=
  ⟨h.t.below k, h.lo.below k, h.hi.below k, h.bel.trans (k.mono h.bel.size)⟩
theorem HX.drew {w : World} {q q1 q2 : Nat} {N n : Int} {S R T : ByteArray} {W : World} (h : HX w q q1 q2 N n S R T W) : HX w q q1 q2 N n S R T W.drew := h.below (below_drewN (Below.refl _ _) 1)

theorem tok_str {N : Int} {S : ByteArray} (h : tokB N (tl S) = true) : ∃ (n : Nat) (F : Nat → Bool), n ≤ 12 ∧ N = (n : Int) ∧ S = bs (tab n F) := by
  obtain ⟨n, F, h1, h2, h3⟩ := tok_tab h
  exact ⟨n, F, h1, h2, by rw [← bs_tl S, h3]⟩

set_option maxRecDepth 100000 in
set_option maxHeartbeats 4000000 in
theorem lawHalves (w : World) (hT : TabK w) (a : Option Addr) (len cap : Nat) (hb : Bytes w a len) :
    Calls Tryd.prog 3 #[.slice a len cap] w fun e w' => e = .returned (.bool true) ∧ Below w.heap.size w w' := by
  have HB : Hid (Bytes w a len) := hb
  have HTK : Hid (TabK w) := hT
  clear hb hT
  by_cases hs : 1048576 < len
  · go_enter Tryd.func3, Tryd.ntmps3
    go_wp2_with fail
    refine (lbig _ a len cap true (by simp; omega)).mono ?_
    rintro e w' ⟨rfl, rfl⟩
    go_wp2
    go_ret
    exact ⟨rfl, Below.refl _ _⟩
  have hsl : len ≤ 1048576 := by omega
  go_enter Tryd.func3, Tryd.ntmps3
  go_wp2_with fail
  refine (lbig _ a len cap false (by simp; omega)).mono ?_
  rintro e w0 ⟨rfl, hw0⟩
  have hw0' := hw0.symm
  clear hw0
  subst hw0'
  go_wp2_with fail
  refine (drawKnown _ a len cap HB.out).mono ?_
  rintro e w1 ⟨⟨N, S, rfl, hS⟩, hb1⟩
  have HA1 : Hid (Below w.heap.size w (w1.alloc (.cells #[.int .i64 N, .string S] 25))) := hb1.alloc hb1.size _
  have HL1 : Hid (Lay (w1.alloc (.cells #[.int .i64 N, .string S] 25)) w1.heap.size (.int .i64 N) (.string S)) := Lay.made _ _ _ _
  clear hb1
  have hSz : S.size ≤ 1048576 := by omega
  cases hk : tokB N (tl S)
  · have HO : Hid (∀ W, Calls Tryd.prog 8 #[tv N S] W fun e w' => e = .returned (.bool false) ∧ Below W.heap.size W w') := fun W => sOk0 W hSz hk
    have H1 : Hid (∀ W, Calls Tryd.prog 9 #[tv N S] W fun e w' => e = .returned (.int .i64 (-1)) ∧ Below W.heap.size W w') := fun W => iKnown0 W hSz hk
    have H2 : Hid (∀ W, Calls Tryd.prog 10 #[tv N S] W fun e w' => (∃ a' c', e = .returned (.slice a' 0 c') ∧ WInts w' W.heap.size a' []) ∧ Below W.heap.size W w') := fun W => iNeeds0 W hSz hk
    have H3 : Hid (∀ W, Calls Tryd.prog 11 #[tv N S] W fun e w' => e = .returned (.int .i64 (-1)) ∧ Below W.heap.size W w') := fun W => iCount0 W hSz hk
    have H4 : Hid (∀ W, Calls Tryd.prog 12 #[tv N S] W fun e w' => e = .returned (.string ByteArray.empty) ∧ Below W.heap.size W w') := fun W => iKey0 W hSz hk
    clear hk
    go_wp2_with fail
    refine (HO.out _).mono ?_
    rintro e w2 ⟨rfl, hb⟩
    have HA2 : Hid (Below w.heap.size w w2) := HA1.out.trans (hb.mono HA1.out.size)
    have HL2 : Hid (Lay w2 w1.heap.size (.int .i64 N) (.string S)) := HL1.out.below hb
    clear hb
    obtain ⟨x0, x1, _, _⟩ := HL2.out
    go_wp2_with fail
    refine (H1.out _).mono ?_
    rintro e w3 ⟨rfl, hb⟩
    have HA3 : Hid (Below w.heap.size w w3) := HA2.out.trans (hb.mono HA2.out.size)
    have HL3 : Hid (Lay w3 w1.heap.size (.int .i64 N) (.string S)) := HL2.out.below hb
    clear hb
    clear x0 x1
    obtain ⟨x0, x1, _, _⟩ := HL3.out
    go_wp2_with fail
    refine (H2.out _).mono ?_
    rintro e w4 ⟨⟨na, nc, rfl, _⟩, hb⟩
    have HA4 : Hid (Below w.heap.size w w4) := HA3.out.trans (hb.mono HA3.out.size)
    have HL4 : Hid (Lay w4 w1.heap.size (.int .i64 N) (.string S)) := HL3.out.below hb
    clear hb
    clear x0 x1
    obtain ⟨x0, x1, _, _⟩ := HL4.out
    go_wp2_with fail
    refine (H3.out _).mono ?_
    rintro e w5 ⟨rfl, hb⟩
    have HA5 : Hid (Below w.heap.size w w5) := HA4.out.trans (hb.mono HA4.out.size)
    have HL5 : Hid (Lay w5 w1.heap.size (.int .i64 N) (.string S)) := HL4.out.below hb
    clear hb
    clear x0 x1
    obtain ⟨x0, x1, _, _⟩ := HL5.out
    go_wp2_with fail
    refine (H4.out _).mono ?_
    rintro e w6 ⟨rfl, hb⟩
    have HA6 : Hid (Below w.heap.size w w6) := HA5.out.trans (hb.mono HA5.out.size)
    have HL6 : Hid (Lay w6 w1.heap.size (.int .i64 N) (.string S)) := HL5.out.below hb
    clear hb
    clear x0 x1
    obtain ⟨x0, x1, _, _⟩ := HL6.out
    go_wp2
    go_ret
    exact ⟨rfl, HA6.out⟩
  have HO : Hid (∀ W, Calls Tryd.prog 8 #[tv N S] W fun e w' => e = .returned (.bool true) ∧ Below W.heap.size W w') := fun W => by
    have := sTableOk N S W hSz
    rwa [hk] at this
  obtain ⟨m, F, hm, rfl, hSF⟩ := tok_str hk
  have HTK0 : Hid (∀ W, Calls Tryd.prog 9 #[tv (m : Int) S] W fun e w' => e = .returned (.int .i64 (knw m F)) ∧ Below W.heap.size W w') := fun W => by rw [hSF]; exact iKnown m F W hm
  have HTC0 : Hid (∀ W, Calls Tryd.prog 11 #[tv (m : Int) S] W fun e w' => e = .returned (.int .i64 ((cnt F (2 ^ m) : Nat) : Int)) ∧ Below W.heap.size W w') := fun W => by rw [hSF]; exact iCount m F W hm
  have HTN0 : Hid (∀ W, Calls Tryd.prog 10 #[tv (m : Int) S] W fun e w' => (∃ a' c', e = .returned (.slice a' (ndTo m F m).length c') ∧ WInts w' W.heap.size a' (ndTo m F m)) ∧ Below W.heap.size W w') := fun W => by rw [hSF]; exact iNeeds m F W hm
  have HSF : Hid (S = bs (tab m F)) := hSF
  clear hSF hk
  go_wp2_with fail
  refine (HO.out _).mono ?_
  rintro e w2 ⟨rfl, hb⟩
  have HA2 : Hid (Below w.heap.size w w2) := HA1.out.trans (hb.mono HA1.out.size)
  have HL2 : Hid (Lay w2 w1.heap.size (.int .i64 (m : Int)) (.string S)) := HL1.out.below hb
  clear hb
  obtain ⟨x0, x1, _, _⟩ := HL2.out
  go_wp2_with fail
  refine (HTK0.out _).mono ?_
  rintro e w3 ⟨rfl, hb⟩
  have HA3 : Hid (Below w.heap.size w w3) := HA2.out.trans (hb.mono HA2.out.size)
  have HL3 : Hid (Lay w3 w1.heap.size (.int .i64 (m : Int)) (.string S)) := HL2.out.below hb
  clear hb
  clear x0 x1
  obtain ⟨x0, x1, _, _⟩ := HL3.out
  go_wp2_with fail
  refine (HTC0.out _).mono ?_
  rintro e w4 ⟨rfl, hb⟩
  have HA4 : Hid (Below w.heap.size w w4) := HA3.out.trans (hb.mono HA3.out.size)
  have HL4 : Hid (Lay w4 w1.heap.size (.int .i64 (m : Int)) (.string S)) := HL3.out.below hb
  clear hb
  clear x0 x1
  obtain ⟨x0, x1, _, _⟩ := HL4.out
  by_cases hm0 : m = 0
  · have HH : Hid (∀ W, Calls Tryd.prog 13 #[tv (m : Int) S, .int .i64 0] W fun e w' => e = .returned (.tuple #[tv 0 ByteArray.empty, .bool false]) ∧ Below W.heap.size W w') := fun W => iHalf0 W hSz (fun h => h.2.1 (by rw [hm0]; rfl))
    have hkc : (knw m F == ((cnt F (2 ^ m) : Nat) : Int)) = true := by
      rw [hm0]
      have hc : Con 0 F := fun j hj => by rw [show j = 0 by simpa using hj]
      rw [knw_con hc]
      have : cnt F (2 ^ 0) = (F 0).toNat := by simp [cnt]
      rw [this]; simp
    have hz0 : ((m : Int) == 0) = true := by rw [hm0]; rfl
    have hnl : (((ndTo m F m).length : Int) == 0) = true := by rw [hm0]; rfl
    generalize ndTo m F m = ND at *
    generalize cnt F (2 ^ m) = C at *
    generalize knw m F = KN at *
    clear hm0
    go_wp2_with fail
    refine (HH.out _).mono ?_
    rintro e w5 ⟨rfl, hb⟩
    have HA5 : Hid (Below w.heap.size w w5) := HA4.out.trans (hb.mono HA4.out.size)
    have HL5 : Hid (Lay w5 w1.heap.size (.int .i64 (m : Int)) (.string S)) := HL4.out.below hb
    clear hb
    clear x0 x1
    obtain ⟨x0, x1, _, _⟩ := HL5.out
    have HBx : Hid (Below w.heap.size w (w5.alloc (.cells #[.int .i64 0, .string ByteArray.empty] 25))) := HA5.out.alloc HA5.out.size _
    have HLx : Hid (Lay (w5.alloc (.cells #[.int .i64 0, .string ByteArray.empty] 25)) w1.heap.size (.int .i64 (m : Int)) (.string S)) := HL5.out.alloc _
    clear x0 x1
    obtain ⟨x0, x1, _, _⟩ := HLx.out
    go_wp2_with fail
    refine (HTN0.out _).mono ?_
    rintro e w6 ⟨⟨na, nc, rfl, _⟩, hb⟩
    have HA6 : Hid (Below w.heap.size w w6) := HBx.out.trans (hb.mono HBx.out.size)
    clear hb x0 x1
    go_wp2
    go_ret
    exact ⟨rfl, HA6.out⟩
  · obtain ⟨n, hmn⟩ : ∃ n, m = n + 1 := ⟨m - 1, by omega⟩
    have hz0 : ((m : Int) == 0) = false := beq_eq_false_iff_ne.2 (by omega)
    have HLO : Hid (∀ W, Calls Tryd.prog 13 #[tv (m : Int) S, .int .i64 0] W fun e w' => e = .returned (.tuple #[tv (n : Int) (bs (tab n (hb n 0 F))), .bool true]) ∧ Below W.heap.size W w') := fun W => by
      rw [HSF.out, hmn]; exact iHalf n 0 F W (by omega) (by omega)
    have HHI : Hid (∀ W, Calls Tryd.prog 13 #[tv (m : Int) S, .int .i64 1] W fun e w' => e = .returned (.tuple #[tv (n : Int) (bs (tab n (hb n 1 F))), .bool true]) ∧ Below W.heap.size W w') := fun W => by
      rw [HSF.out, hmn]; exact iHalf n 1 F W (by omega) (by omega)
    have HCU : Hid (∀ W U, (U = bs (tab n (hb n 0 F)) ∨ U = bs (tab n (hb n 1 F))) → Calls Tryd.prog 11 #[tv (n : Int) U] W fun e w' => e = .returned (.int .i64 ((cu n U : Nat) : Int)) ∧ Below W.heap.size W w') := fun W U hU => by
      rcases hU with rfl | rfl
      · rw [cu_tab]; exact iCount n _ W (by omega)
      · rw [cu_tab]; exact iCount n _ W (by omega)
    have HKU : Hid (∀ W U, (U = bs (tab n (hb n 0 F)) ∨ U = bs (tab n (hb n 1 F))) → Calls Tryd.prog 9 #[tv (n : Int) U] W fun e w' => e = .returned (.int .i64 (ku n U)) ∧ Below W.heap.size W w') := fun W U hU => by
      rcases hU with rfl | rfl
      · rw [ku_tab]; exact iKnown n _ W (by omega)
      · rw [ku_tab]; exact iKnown n _ W (by omega)
    have hcl := cnt_le F (2 ^ m)
    have hml := (p12 hm).2
    have hsum : ((cu n (bs (tab n (hb n 0 F))) : Nat) : Int) + ((cu n (bs (tab n (hb n 1 F))) : Nat) : Int) = ((cnt F (2 ^ m) : Nat) : Int) := by
      rw [cu_tab, cu_tab, hmn, ← half_count]; push_cast; rfl
    have hwr : IntKind.i64.wrap ((cnt F (2 ^ m) : Nat) : Int) = ((cnt F (2 ^ m) : Nat) : Int) := by rw [IntKind.wrap_i64] <;> omega
    have hjn : bs (tab n (hb n 0 F)) ++ bs (tab n (hb n 1 F)) = S := by rw [HSF.out, hmn]; exact half_join n F
    have hRs : (bs (tab n (hb n 0 F))).size ≤ 4096 := by rw [bs_size, tab_length]; exact (p12 (n := n) (by omega)).2
    have hTs : (bs (tab n (hb n 1 F))).size ≤ 4096 := by rw [bs_size, tab_length]; exact (p12 (n := n) (by omega)).2
    have HKH : Hid ((0 ≤ knw m F ↔ 0 ≤ ku n (bs (tab n (hb n 0 F))) ∧ ku n (bs (tab n (hb n 0 F))) = ku n (bs (tab n (hb n 1 F)))) ∧ (0 ≤ knw m F → knw m F = ku n (bs (tab n (hb n 0 F))))) := by
      rw [ku_tab, ku_tab, hmn]; exact knw_halves n F
    have HNE : Hid (ndTo m F m = [] ↔ 0 ≤ knw m F) := nd_empty m F
    have HNH : Hid (ndTo m F m = [] ∨ ∃ x l, ndTo m F m = x :: l ∧ 0 ≤ x ∧ (x = 0 ↔ bs (tab n (hb n 0 F)) ≠ bs (tab n (hb n 1 F)))) := by
      rw [hmn]
      rcases nd_head n F with h | ⟨x, l, h1, h2, h3⟩
      · exact .inl h
      · refine .inr ⟨x, l, h1, h2, h3.trans ((nd_first n F).trans ⟨fun h e => h (Ss0.bs_inj e), fun h e => h (by rw [e])⟩)⟩
    have HRT : Hid (ndTo m F m = [] → bs (tab n (hb n 0 F)) = bs (tab n (hb n 1 F))) := fun h => by
      by_cases e : tab n (hb n 0 F) = tab n (hb n 1 F)
      · rw [e]
      · exfalso
        have h1 := (nd_first n F).2 e
        have h2 := (nd_none m F).2 ((nd_empty m F).1 h) 0 (by omega)
        rw [hmn, h1] at h2; cases h2
    have e1 : (m : Int) - 1 = (n : Int) := by omega
    have hr1 := knw_range m F
    have hr2 : -1 ≤ ku n (bs (tab n (hb n 0 F))) ∧ ku n (bs (tab n (hb n 0 F))) ≤ 1 := by rw [ku_tab]; exact knw_range n _
    have hr3 : -1 ≤ ku n (bs (tab n (hb n 1 F))) ∧ ku n (bs (tab n (hb n 1 F))) ≤ 1 := by rw [ku_tab]; exact knw_range n _
    generalize ndTo m F m = ND at *
    generalize cnt F (2 ^ m) = C at *
    generalize knw m F = KN at *
    generalize bs (tab n (hb n 0 F)) = R at *
    generalize bs (tab n (hb n 1 F)) = T at *
    generalize cu n = CU at *
    generalize ku n = KU at *
    clear hmn hm0 HSF
    go_wp2_with fail
    refine (HLO.out _).mono ?_
    rintro e w5 ⟨rfl, hb⟩
    have HA5 : Hid (Below w.heap.size w w5) := HA4.out.trans (hb.mono HA4.out.size)
    have HL5 : Hid (Lay w5 w1.heap.size (.int .i64 (m : Int)) (.string S)) := HL4.out.below hb
    clear hb
    clear x0 x1
    obtain ⟨x0, x1, _, _⟩ := HL5.out
    have HLx : Hid (Lay (w5.alloc (.cells #[.int .i64 (n : Int), .string R] 25)) w1.heap.size (.int .i64 (m : Int)) (.string S)) := HL5.out.alloc _
    have HRx : Hid (Lay (w5.alloc (.cells #[.int .i64 (n : Int), .string R] 25)) w5.heap.size (.int .i64 (n : Int)) (.string R)) := Lay.made _ _ _ _
    have HAx : Hid (Below w.heap.size w (w5.alloc (.cells #[.int .i64 (n : Int), .string R] 25))) := HA5.out.alloc HA5.out.size _
    clear x0 x1
    obtain ⟨x0, x1, _, _⟩ := HLx.out
    go_wp2_with fail
    refine (HHI.out _).mono ?_
    rintro e w6 ⟨rfl, hb⟩
    have HS6 : Hid (HX w w1.heap.size w5.heap.size w6.heap.size (m : Int) (n : Int) S R T (w6.alloc (.cells #[.int .i64 (n : Int), .string T] 25))) :=
      ⟨(HLx.out.below hb).alloc _, (HRx.out.below hb).alloc _, Lay.made _ _ _ _, (HAx.out.trans (hb.mono HAx.out.size)).alloc (by have := hb.size; have := HAx.out.size; omega) _⟩
    clear hb x0 x1
    obtain ⟨x0, x1, _, _⟩ := HS6.out.t
    obtain ⟨y0, y1, _, _⟩ := HS6.out.lo
    obtain ⟨z0, z1, _, _⟩ := HS6.out.hi
    go_wp2_with fail
    clear x0 x1 y0 y1 z0 z1
    generalize (w6.alloc (.cells #[.int .i64 (n : Int), .string T] 25)) = w7 at *
    obtain ⟨x0, x1, _, _⟩ := HS6.out.t
    obtain ⟨y0, y1, _, _⟩ := HS6.out.lo
    obtain ⟨z0, z1, _, _⟩ := HS6.out.hi
    have hnn : ((n : Int) != (n : Int)) = false := by simp
    have hw1 : IntKind.i64.wrap ((m : Int) - 1) = (n : Int) := by rw [e1, IntKind.wrap_i64] <;> omega
    have hw3 : IntKind.i64.wrap (n : Int) = (n : Int) := by rw [IntKind.wrap_i64] <;> omega
    have hadd3 : ¬ 9223372036854775807 < R.size + T.size := by omega
    have hadd4 : ¬ R.size + T.size > 9223372036854775807 := by omega
    have hw2 : IntKind.i64.wrap (((CU R : Nat) : Int) + ((CU T : Nat) : Int)) = (C : Int) := by rw [hsum]; exact hwr
    have hcc : ((C : Int) != (C : Int)) = false := by simp
    have hss : (S.toList == S.toList) = true := by simp
    go_region_held3 (fun w' => w'.cell? ⟨w1.heap.size, 0, none⟩ = some (.int .i64 (m : Int)) ∧ w'.cell? ⟨w1.heap.size, 1, none⟩ = some (.string S) ∧ w'.cell? ⟨w5.heap.size, 0, none⟩ = some (.int .i64 (n : Int)) ∧ w'.cell? ⟨w5.heap.size, 1, none⟩ = some (.string R) ∧ w'.cell? ⟨w6.heap.size, 0, none⟩ = some (.int .i64 (n : Int)) ∧ w'.cell? ⟨w6.heap.size, 1, none⟩ = some (.string T)) ((first | exact ⟨x0, x1, y0, y1, z0, z1⟩ | exact ⟨hS3.t.c0, hS3.t.c1, hS3.lo.c0, hS3.lo.c1, hS3.hi.c0, hS3.hi.c1⟩)) ((go_at_call 11; refine (HCU.out _ _ (by first | exact Or.inl rfl | exact Or.inr rfl)).mono ?_; rintro e w8 ⟨rfl, hb⟩; (first | have hS3 := hS3.below hb | have hS3 := HS6.out.drew.below hb); clear hb))
    have HS8 : Hid (HX w w1.heap.size w5.heap.size w6.heap.size (m : Int) (n : Int) S R T w8) := hS3
    clear hS3 x0 x1 y0 y1 z0 z1
    obtain ⟨x0, x1, _, _⟩ := HS8.out.t
    obtain ⟨y0, y1, _, _⟩ := HS8.out.lo
    obtain ⟨z0, z1, _, _⟩ := HS8.out.hi
    go_wp2_with fail
    go_region_held3 (fun w' => w'.cell? ⟨w5.heap.size, 0, none⟩ = some (.int .i64 (n : Int)) ∧ w'.cell? ⟨w5.heap.size, 1, none⟩ = some (.string R) ∧ w'.cell? ⟨w6.heap.size, 0, none⟩ = some (.int .i64 (n : Int)) ∧ w'.cell? ⟨w6.heap.size, 1, none⟩ = some (.string T)) ((first | exact ⟨y0, y1, z0, z1⟩ | exact ⟨hS3.lo.c0, hS3.lo.c1, hS3.hi.c0, hS3.hi.c1⟩)) ((go_at_call 9; refine (HKU.out _ _ (by first | exact Or.inl rfl | exact Or.inr rfl)).mono ?_; rintro e w9 ⟨rfl, hb⟩; (first | have hS3 := hS3.below hb | have hS3 := HS8.out.drew.below hb); clear hb))
    have HS9 : Hid (HX w w1.heap.size w5.heap.size w6.heap.size (m : Int) (n : Int) S R T w9) := hS3
    clear hS3 x0 x1 y0 y1 z0 z1 hjn hsum hwr hw1 hw2 hw3 hcc hss hnn
    obtain ⟨x0, x1, _, _⟩ := HS9.out.t
    obtain ⟨y0, y1, _, _⟩ := HS9.out.lo
    obtain ⟨z0, z1, _, _⟩ := HS9.out.hi
    obtain ⟨hka, hkb⟩ := HKH.out
    by_cases h0 : 0 ≤ KN
    · have ha : KU R = KN := (hkb h0).symm
      have hbq : KU T = KN := by rw [← ha]; exact (hka.1 h0).2.symm
      have hND : ND = [] := HNE.out.2 h0
      have hRT : (R.toList == T.toList) = true := by rw [HRT.out hND]; simp
      have HA : Hid (KU R = KN) := ha
      have HBq : Hid (KU T = KN) := hbq
      subst hND
      generalize KU R = ka at *
      generalize KU T = kb at *
      subst ha
      subst hbq
      clear hka hkb
      go_wp2_with fail
      refine (HTN0.out _).mono ?_
      rintro e w10 ⟨⟨na, nc, rfl, hwi⟩, hb⟩
      have HS10 : Hid (HX w w1.heap.size w5.heap.size w6.heap.size (m : Int) (n : Int) S R T w10) := HS9.out.below hb
      clear hb x0 x1 y0 y1 z0 z1
      obtain ⟨y0, y1, _, _⟩ := HS10.out.lo
      obtain ⟨z0, z1, _, _⟩ := HS10.out.hi
      clear hwi
      go_wp2
      go_ret
      exact ⟨rfl, HS10.out.bel⟩
    · have hk0 : KN < 0 := by omega
      have hND : ¬ ND = [] := fun e => h0 (HNE.out.1 e)
      obtain ⟨x, l, hxl, hx9, hxi⟩ : ∃ x l, ND = x :: l ∧ 0 ≤ x ∧ (x = 0 ↔ R ≠ T) := by
        rcases HNH.out with h | h
        · exact absurd h hND
        · exact h
      subst hxl
      have hab : ¬ (0 ≤ KU R ∧ KU R = KU T) := fun e => h0 (hka.2 e)
      clear hka hkb hND h0
      generalize KU R = ka at *
      generalize KU T = kb at *
      by_cases ha0 : 0 ≤ ka
      · have hq : (ka == kb) = false := beq_eq_false_iff_ne.2 fun e => hab ⟨ha0, e⟩
        clear hab
        go_wp2_with fail
        refine (HTN0.out _).mono ?_
        rintro e w10 ⟨⟨na, nc, rfl, hwi⟩, hb⟩
        have HS10 : Hid (HX w w1.heap.size w5.heap.size w6.heap.size (m : Int) (n : Int) S R T w10) := HS9.out.below hb
        clear hb x0 x1 y0 y1 z0 z1
        obtain ⟨y0, y1, _, _⟩ := HS10.out.lo
        obtain ⟨z0, z1, _, _⟩ := HS10.out.hi
        obtain ⟨vb, vo, rfl, v0⟩ : ∃ vb vo, na = some ⟨vb, vo, none⟩ ∧ w10.cell? ⟨vb, vo, none⟩ = some (.int .i64 x) := by
          rcases hwi.2 with h | ⟨vb, vo, h1, _, h2⟩
          · exact absurd h (by simp)
          · exact ⟨vb, vo, h1, (h2 0 (by simp)).1⟩
        clear hwi
        have hpos : (0 : Int) < ((l.length + 1 : Nat) : Int) := by omega
        have hne0 : (((l.length + 1 : Nat) : Int) == 0) = false := beq_eq_false_iff_ne.2 (by omega)
        have hp2 : (0 : Int) < (l.length : Int) + 1 := by omega
        have hn2 : ((l.length : Int) + 1 == 0) = false := beq_eq_false_iff_ne.2 (by omega)
        by_cases hx0 : x = 0
        · have hxb : (x == 0) = true := by rw [hx0]; rfl
          have hRT : (R.toList == T.toList) = false := by rw [Ss1.eqb]; exact decide_eq_false fun e => (hxi.1 hx0) (Ss1.tl_inj e)
          clear hx0 hxi
          go_wp2
          go_ret
          exact ⟨ret_bool (show (!decide (0 ≤ KN)) = true by rw [decide_eq_false (by omega)]; rfl), HS10.out.bel⟩
        · have hxb : (x == 0) = false := beq_eq_false_iff_ne.2 hx0
          have hRT : (R.toList == T.toList) = true := by
            by_cases e : R = T
            · rw [e]; simp
            · exact absurd (hxi.2 e) hx0
          clear hx0 hxi
          go_wp2
          go_ret
          exact ⟨ret_bool (show (!decide (0 ≤ KN)) = true by rw [decide_eq_false (by omega)]; rfl), HS10.out.bel⟩
      · have ha1 : ka < 0 := by omega
        clear hab ha0
        go_wp2_with fail
        refine (HTN0.out _).mono ?_
        rintro e w10 ⟨⟨na, nc, rfl, hwi⟩, hb⟩
        have HS10 : Hid (HX w w1.heap.size w5.heap.size w6.heap.size (m : Int) (n : Int) S R T w10) := HS9.out.below hb
        clear hb x0 x1 y0 y1 z0 z1
        obtain ⟨y0, y1, _, _⟩ := HS10.out.lo
        obtain ⟨z0, z1, _, _⟩ := HS10.out.hi
        obtain ⟨vb, vo, rfl, v0⟩ : ∃ vb vo, na = some ⟨vb, vo, none⟩ ∧ w10.cell? ⟨vb, vo, none⟩ = some (.int .i64 x) := by
          rcases hwi.2 with h | ⟨vb, vo, h1, _, h2⟩
          · exact absurd h (by simp)
          · exact ⟨vb, vo, h1, (h2 0 (by simp)).1⟩
        clear hwi
        have hpos : (0 : Int) < ((l.length + 1 : Nat) : Int) := by omega
        have hne0 : (((l.length + 1 : Nat) : Int) == 0) = false := beq_eq_false_iff_ne.2 (by omega)
        have hp2 : (0 : Int) < (l.length : Int) + 1 := by omega
        have hn2 : ((l.length : Int) + 1 == 0) = false := beq_eq_false_iff_ne.2 (by omega)
        by_cases hx0 : x = 0
        · have hxb : (x == 0) = true := by rw [hx0]; rfl
          have hRT : (R.toList == T.toList) = false := by rw [Ss1.eqb]; exact decide_eq_false fun e => (hxi.1 hx0) (Ss1.tl_inj e)
          clear hx0 hxi
          go_wp2
          go_ret
          exact ⟨ret_bool (show (!decide (0 ≤ KN)) = true by rw [decide_eq_false (by omega)]; rfl), HS10.out.bel⟩
        · have hxb : (x == 0) = false := beq_eq_false_iff_ne.2 hx0
          have hRT : (R.toList == T.toList) = true := by
            by_cases e : R = T
            · rw [e]; simp
            · exact absurd (hxi.2 e) hx0
          clear hx0 hxi
          go_wp2
          go_ret
          exact ⟨ret_bool (show (!decide (0 ≤ KN)) = true by rw [decide_eq_false (by omega)]; rfl), HS10.out.bel⟩

end Go.Proofs.YtkcbonocbdfbcaaDoor.Lh1
