/- Small texts of mine, one behind the other. -/
import Derived.Test.YtmpbedfiamlbpaaGreatDoorRows
import Derived.Lib.LaidTab
import Derived.Lib.AppendIntMem
import Derived.Lib.Itoa
import Derived.OpenShut
import Derived.MakeChecks
import Derived.Test.YtmpbedfiamlbpaaGreatDoorPkS14
import Derived.Test.YtmpbedfiamlbpaaGreatDoorPkS10
import Derived.Test.YtmpbedfiamlbpaaGreatDoorPkS13
/- The program's functions over tables: count, known, not. -/
namespace Go.Proofs.YtmpbedfiamlbpaaGreatDoor.Te1
open Go.RowKit
open Ta0 Ta1 Ta2 Tc2 Tc4 Tc5 Tc6 Tc7 Tc8 Td1 Td2
open Nd0 (Kept Ints set_other set_same lt_of_cell)
open Ss0 (bs bs_size ret_str bs_ext)
open Ss1 (tl tl_length tl_get tl_take bs_tl tl_bs tl_inj eqb)
set_option linter.unusedVariables false

theorem iOk1 (n : Nat) (F : Nat → Bool) (w : World) (hn : n ≤ 12) :
    Calls Tryz.prog 49 #[tv (n : Int) (bs (tab n F))] w fun e w' => e = .returned (.bool true) ∧ Below w.heap.size w w' := by
  have := iTableOk (n : Int) (bs (tab n F)) w (by rw [bs_size, tab_length]; have := p12 hn; omega)
  rwa [tl_bs, tab_tok F hn] at this
theorem iOk0 {N : Int} {S : ByteArray} (w : World) (hS : S.size ≤ 1048576) (h : tokB N (tl S) = false) :
    Calls Tryz.prog 49 #[tv N S] w fun e w' => e = .returned (.bool false) ∧ Below w.heap.size w w' := by
  have := iTableOk N S w hS
  rwa [h] at this
/-- A table packed: what comes of it, with the frame. -/
theorem count_tab (n : Nat) (F : Nat → Bool) : cnt (upto (2 ^ n) F) (64 * nw n) = cnt F (2 ^ n) := cnt_past F _ _ (by unfold nw; omega)
theorem tab_upto (n : Nat) (F : Nat → Bool) : tab n (upto (2 ^ n) F) = tab n F := tab_ext fun i hi => by simp [upto, hi]

set_option maxHeartbeats 400000 in
theorem iBitOk (x : Int) (w : World) : Calls Tryz.prog 113 #[.int .i64 x] w fun e w' => e = .returned (.bool (bitB x)) ∧ w' = w := by
  by_cases h0 : x = 0
  · have hb : (x == 0) = true := by rw [h0]; rfl
    have HB : Hid (bitB x = true) := decide_eq_true (.inl h0)
    clear h0
    go_enter Tryz.func113, Tryz.ntmps113
    go_wp2
    go_ret
    exact ⟨ret_bool HB.out.symm, rfl⟩
  · have hb : (x == 0) = false := beq_eq_false_iff_ne.2 h0
    by_cases h1 : x = 1
    · have hb1 : (x == 1) = true := by rw [h1]; rfl
      have HB : Hid (bitB x = true) := decide_eq_true (.inr h1)
      clear h0 h1
      go_enter Tryz.func113, Tryz.ntmps113
      go_wp2
      go_ret
      exact ⟨ret_bool HB.out.symm, rfl⟩
    · have hb1 : (x == 1) = false := beq_eq_false_iff_ne.2 h1
      have HB : Hid (bitB x = false) := decide_eq_false (by omega)
      clear h0 h1
      go_enter Tryz.func113, Tryz.ntmps113
      go_wp2
      go_ret
      exact ⟨ret_bool HB.out.symm, rfl⟩

set_option maxHeartbeats 1000000 in
theorem iKnown0 {N : Int} {S : ByteArray} (w : World) (hS : S.size ≤ 1048576) (h : tokB N (tl S) = false) :
    Calls Tryz.prog 131 #[tv N S] w fun e w' => e = .returned (.int .i64 (-1)) ∧ Below w.heap.size w w' := by
  have HO : Hid (∀ W, Calls Tryz.prog 49 #[tv N S] W fun e w' => e = .returned (.bool false) ∧ Below W.heap.size W w') := fun W => iOk0 W hS h
  have HA : Hid (Below w.heap.size w (w.alloc (.cells #[.int .i64 N, .string S] 26))) := (Below.refl _ _).alloc (Nat.le_refl _) _
  clear h
  go_enter Tryz.func131, Tryz.ntmps131
  go_wp2_with fail
  refine (HO.out _).mono ?_
  rintro e w1 ⟨rfl, hb⟩
  have HB : Hid (Below w.heap.size w w1) := HA.out.trans (hb.mono HA.out.size)
  clear hb
  go_wp2
  go_ret
  exact ⟨rfl, HB.out⟩

set_option maxHeartbeats 2000000 in
theorem iKnown (n : Nat) (F : Nat → Bool) (w : World) (hn : n ≤ 12) :
    Calls Tryz.prog 131 #[tv (n : Int) (bs (tab n F))] w fun e w' => e = .returned (.int .i64 (knw n F)) ∧ Below w.heap.size w w' := by
  have HO : Hid (∀ W, Calls Tryz.prog 49 #[tv (n : Int) (bs (tab n F))] W fun e w' => e = .returned (.bool true) ∧ Below W.heap.size W w') := fun W => iOk1 n F W hn
  have HPK : Hid (∀ W, Calls Tryz.prog 118 #[tv (n : Int) (bs (tab n F))] W fun e w' => ∃ g, e = .returned (pv n (nw n) g) ∧ W.heap.size ≤ g ∧ Wds w' g (nw n) (upto (2 ^ n) F) ∧ Below W.heap.size W w') := fun W => pack n F W hn
  have HCT : Hid (∀ W g, Wds W g (nw n) (upto (2 ^ n) F) → Calls Tryz.prog 164 #[pv n (nw n) g] W fun e w' => e = .returned (.int .i64 ((cnt F (2 ^ n) : Nat) : Int)) ∧ Below W.heap.size W w') := fun W g h => by
    have := count n g _ W hn h
    rwa [count_tab] at this
  have HSI : Hid (∀ W g, Calls Tryz.prog 159 #[pv n (nw n) g] W fun e w' => e = .returned (.int .i64 ((2 ^ n : Nat) : Int)) ∧ Below W.heap.size W w') := fun W g => size n g W hn
  have hp := (p12 hn).1
  have HK0 : Hid (cnt F (2 ^ n) = 0 → knw n F = 0) := fun h => by show knw n F = 0; unfold knw; rw [if_pos h]
  have HK1 : Hid (cnt F (2 ^ n) ≠ 0 → cnt F (2 ^ n) = 2 ^ n → knw n F = 1) := fun h k => by show knw n F = 1; unfold knw; rw [if_neg h, if_pos k]
  have HK2 : Hid (cnt F (2 ^ n) ≠ 0 → cnt F (2 ^ n) ≠ 2 ^ n → knw n F = -1) := fun h k => by show knw n F = -1; unfold knw; rw [if_neg h, if_neg k]
  generalize knw n F = KN at *
  generalize cnt F (2 ^ n) = C at *
  generalize bs (tab n F) = S at *
  generalize upto (2 ^ n) F = F at *
  generalize nw n = m at *
  generalize 2 ^ n = P at *
  have HL0 : Hid (Lay (w.alloc (.cells #[.int .i64 (n : Int), .string S] 26)) w.heap.size (.int .i64 (n : Int)) (.string S)) := Lay.made _ _ _ _
  have HA : Hid (Below w.heap.size w (w.alloc (.cells #[.int .i64 (n : Int), .string S] 26))) := (Below.refl _ _).alloc (Nat.le_refl _) _
  go_enter Tryz.func131, Tryz.ntmps131
  go_wp2_with fail
  refine (HO.out _).mono ?_
  rintro e w1 ⟨rfl, hb⟩
  have HB1 : Hid (Below w.heap.size w w1) := HA.out.trans (hb.mono HA.out.size)
  obtain ⟨x0, x1, _, _⟩ := HL0.out.below hb
  clear hb
  go_wp2_with fail
  refine (HPK.out _).mono ?_
  rintro e w2 ⟨g, rfl, hg, hw, hb⟩
  have HB2 : Hid (Below w.heap.size w (w2.alloc (.cells #[.int .i64 (n : Int), .slice (some ⟨g, 0, none⟩) m m] 90))) := (HB1.out.trans (hb.mono HB1.out.size)).alloc (by have := hb.size; have := HB1.out.size; omega) _
  have HW2 : Hid (Wds (w2.alloc (.cells #[.int .i64 (n : Int), .slice (some ⟨g, 0, none⟩) m m] 90)) g m F) := hw.kept (S := fun _ => False) ((Kept.refl _ _).alloc _) (fun h => h)
  clear hb x0 x1 hw
  go_wp2_with fail
  refine (HCT.out _ g HW2.out).mono ?_
  rintro e w3 ⟨rfl, hb⟩
  have HB3 : Hid (Below w.heap.size w w3) := HB2.out.trans (hb.mono HB2.out.size)
  have HL3 : Hid (Lay w3 w2.heap.size (.int .i64 (n : Int)) (.slice (some ⟨g, 0, none⟩) m m)) := (Lay.made w2 _ _ _).below hb
  clear hb
  by_cases h0 : C = 0
  · have hc0 : ((C : Int) == 0) = true := by rw [h0]; rfl
    have HK : Hid (KN = 0) := HK0.out h0
    clear h0
    go_wp2
    go_ret
    exact ⟨ret_int HK.out.symm, HB3.out⟩
  · have hc0 : ((C : Int) == 0) = false := beq_eq_false_iff_ne.2 (by omega)
    obtain ⟨q0, q1, _, _⟩ := HL3.out
    by_cases h1 : C = P
    · have hc1 : ((C : Int) == (P : Int)) = true := by rw [h1]; simp
      have HK : Hid (KN = 1) := HK1.out h0 h1
      clear h0 h1
      go_wp2_with (go_at_call 159; refine (HSI.out _ g).mono ?_; rintro e w4 ⟨rfl, hb⟩; have HB4 : Hid (Below w.heap.size w w4) := HB3.out.trans (hb.mono HB3.out.size); clear hb)
      go_ret
      exact ⟨ret_int HK.out.symm, HB4.out⟩
    · have hc1 : ((C : Int) == (P : Int)) = false := beq_eq_false_iff_ne.2 (by omega)
      have HK : Hid (KN = -1) := HK2.out h0 h1
      clear h0 h1
      go_wp2_with (go_at_call 159; refine (HSI.out _ g).mono ?_; rintro e w4 ⟨rfl, hb⟩; have HB4 : Hid (Below w.heap.size w w4) := HB3.out.trans (hb.mono HB3.out.size); clear hb)
      go_ret
      exact ⟨ret_int HK.out.symm, HB4.out⟩

end Go.Proofs.YtmpbedfiamlbpaaGreatDoor.Te1

/- The library's table of powers of ten, as the walks read it; TableKey of both sides. -/
namespace Go.Proofs.YtmpbedfiamlbpaaGreatDoor.Tk0
open Go.RowKit
open Ta0 Ta1 Ta2 Tc2 Tc5 Td1 Te1 Tx0
open Ss0 (bs bs_size bs_app ret_str sDec)
open Ss1 (tl tl_bs bs_tl)
set_option linter.unusedVariables false

/-- The table is laid. -/
structure TabK (w : World) : Prop where
  pow : Lib.TabIs Tryz.prog w "internal/strconv.uint64pow10" .u64 Lib.pow10Tab
theorem TabK.below {w w' : World} (h : TabK w) (k : Below w.heap.size w w') : TabK w' := ⟨Lib.tabBelow_of_tabIs h.pow w' k⟩
theorem laid_at {P : Program} {W : World} : ∀ {laid : List (String × DataW Unit)} {ps : List MemPlace}, DataW.LaidVars P W laid ps → ∀ {n : String} {d : DataW Unit}, (n, d) ∈ laid →
    ∃ g t cs fuel p, P.globalNamed n = some g ∧ (P.globals[g]?).map (·.type) = some t ∧ W.var? P n = some cs ∧ DataW.trod (fun _ => ()) P W 0 (fun _ => true) false fuel t cs.toList = some (d, p) := by
  intro laid
  induction laid with
  | nil => intro ps _ n d h; cases h
  | cons x r ih =>
    intro ps h n d hm
    obtain ⟨n', d'⟩ := x
    obtain ⟨g, t, cs, fuel, p, q, h1, h2, h3, h4, h5, _⟩ := h
    rcases List.mem_cons.1 hm with e | e
    · cases e; exact ⟨g, t, cs, fuel, p, h1, h2, h3, h4⟩
    · exact ih h5 e
theorem gPow : Tryz.prog.globalNamed "internal/strconv.uint64pow10" = some 4 := by kernel_rfl
theorem gtPow : (Tryz.prog.globals[4]?).map (·.type) = some 236 := by kernel_rfl
theorem tabk_of_laid {W : World} {laid : List (String × DataW Unit)} (h : laidMet Tryz.prog laid W)
    (h1 : ("internal/strconv.uint64pow10", Rows.laid_internal_strconv_uint64pow10) ∈ laid) : TabK W := by
  obtain ⟨ps, hL, _⟩ := h
  refine ⟨?_⟩
  obtain ⟨g, t, cs, fuel, p, e1, e2, e3, e4⟩ := laid_at hL h1
  obtain rfl := Option.some.inj (gPow.symm.trans e1)
  obtain rfl := Option.some.inj (gtPow.symm.trans e2)
  unfold Lib.TabIs
  rw [e3, ← Lib.cells_of_tab (k := .u64) (zs := Lib.pow10Tab) Tryz.underlying236 Tryz.underlying148 (by kernel_rfl) (by kernel_rfl) e4]
theorem itoa_dec (n : Nat) : Lib.itoa (n : Int) = dec n := by
  unfold Lib.itoa
  rw [if_neg (by omega), Int.toNat_natCast]
  induction n using Nat.strongRecOn with
  | ind n ih =>
    rw [Lib.decDigits]
    unfold dec
    by_cases h : n < 10
    · rw [dif_pos h]
      by_cases h0 : n = 0
      · subst h0; rfl
      · rw [if_neg h0, digs_pos (by omega), show n / 10 = 0 by omega, digs_zero, show n % 10 = n by omega]; rfl
    · rw [dif_neg h, if_neg (by omega), digs_pos (by omega), ih (n / 10) (by omega)]
      unfold dec
      rw [if_neg (by omega)]
theorem itoa (n : Nat) (hn : n < 1000000000) (w : World) (hT : TabK w) :
    Calls Tryz.prog 117 #[.int .i64 (n : Int)] w fun e w' => e = .returned (.string (bs (dec n))) ∧ Below w.heap.size w w' := by
  refine (Tryz.strconv_Itoa (n : Int) (by omega) (by omega) w hT.pow).mono ?_
  rintro e w' ⟨rfl, k, os, rfl⟩
  exact ⟨by rw [itoa_dec]; rfl, Lib.below_grow _ _ (Nat.le_refl _) k os⟩

/-- The key of a right table. -/
def keyL (n : Nat) (l : List UInt8) : List UInt8 := dec n ++ (58 :: l)
theorem key_text (n : Nat) (l : List UInt8) : bs (dec n) ++ ⟨#[58]⟩ ++ bs l = bs (keyL n l) := by
  rw [show (⟨#[58]⟩ : ByteArray) = bs [58] from rfl, bs_app, bs_app]
  unfold keyL
  congr 1
  simp

set_option maxHeartbeats 1000000 in
theorem sKey0 {N : Int} {S : ByteArray} (w : World) (hS : S.size ≤ 1048576) (h : tokB N (tl S) = false) :
    Calls Tryz.prog 44 #[tv N S] w fun e w' => e = .returned (.string ByteArray.empty) ∧ Below w.heap.size w w' := by
  have HO : Hid (∀ W, Calls Tryz.prog 112 #[tv N S] W fun e w' => e = .returned (.bool false) ∧ Below W.heap.size W w') := fun W => sOk0 W hS h
  have HA : Hid (Below w.heap.size w (w.alloc (.cells #[.int .i64 N, .string S] 26))) := (Below.refl _ _).alloc (Nat.le_refl _) _
  clear h
  go_enter Tryz.func44, Tryz.ntmps44
  go_wp2_with fail
  refine (HO.out _).mono ?_
  rintro e w1 ⟨rfl, hb⟩
  have HB : Hid (Below w.heap.size w w1) := HA.out.trans (hb.mono HA.out.size)
  clear hb
  go_wp2
  go_ret
  exact ⟨rfl, HB.out⟩

set_option maxHeartbeats 1000000 in
theorem iKey0 {N : Int} {S : ByteArray} (w : World) (hS : S.size ≤ 1048576) (h : tokB N (tl S) = false) :
    Calls Tryz.prog 56 #[tv N S] w fun e w' => e = .returned (.string ByteArray.empty) ∧ Below w.heap.size w w' := by
  have HO : Hid (∀ W, Calls Tryz.prog 49 #[tv N S] W fun e w' => e = .returned (.bool false) ∧ Below W.heap.size W w') := fun W => iOk0 W hS h
  have HA : Hid (Below w.heap.size w (w.alloc (.cells #[.int .i64 N, .string S] 26))) := (Below.refl _ _).alloc (Nat.le_refl _) _
  clear h
  go_enter Tryz.func56, Tryz.ntmps56
  go_wp2_with fail
  refine (HO.out _).mono ?_
  rintro e w1 ⟨rfl, hb⟩
  have HB : Hid (Below w.heap.size w w1) := HA.out.trans (hb.mono HA.out.size)
  clear hb
  go_wp2
  go_ret
  exact ⟨rfl, HB.out⟩

theorem dec_short {n : Nat} (h : n ≤ 12) : (bs (dec n)).size ≤ 2 := by
  have : ∀ k : Fin 13, (dec k.val).length ≤ 2 := by decide +kernel
  rw [bs_size]
  exact this ⟨n, by omega⟩

set_option maxHeartbeats 1000000 in
theorem sKey (n : Nat) (F : Nat → Bool) (w : World) (hn : n ≤ 12) :
    Calls Tryz.prog 44 #[tv (n : Int) (bs (tab n F))] w fun e w' => e = .returned (.string (bs (keyL n (tab n F)))) ∧ Below w.heap.size w w' := by
  have HO : Hid (∀ W, Calls Tryz.prog 112 #[tv (n : Int) (bs (tab n F))] W fun e w' => e = .returned (.bool true) ∧ Below W.heap.size W w') := fun W => sOk1 n F W hn
  have HD : Hid (∀ W, Calls Tryz.prog 45 #[.int .i64 (n : Int)] W fun e w' => e = .returned (.string (bs (dec n))) ∧ w' = W) := fun W => sDec n W (by omega)
  have HK : Hid (bs (dec n) ++ ⟨#[58]⟩ ++ bs (tab n F) = bs (keyL n (tab n F))) := key_text n _
  have hds := dec_short hn
  have hss : (bs (tab n F)).size ≤ 4096 := by rw [bs_size, tab_length]; exact (p12 hn).2
  generalize bs (keyL n (tab n F)) = K at *
  generalize bs (tab n F) = S at *
  generalize bs (dec n) = DS at *
  have HL0 : Hid (Lay (w.alloc (.cells #[.int .i64 (n : Int), .string S] 26)) w.heap.size (.int .i64 (n : Int)) (.string S)) := Lay.made _ _ _ _
  have HA : Hid (Below w.heap.size w (w.alloc (.cells #[.int .i64 (n : Int), .string S] 26))) := (Below.refl _ _).alloc (Nat.le_refl _) _
  go_enter Tryz.func44, Tryz.ntmps44
  go_wp2_with fail
  refine (HO.out _).mono ?_
  rintro e w1 ⟨rfl, hb⟩
  have HB : Hid (Below w.heap.size w w1) := HA.out.trans (hb.mono HA.out.size)
  obtain ⟨x0, x1, _, _⟩ := HL0.out.below hb
  clear hb
  go_wp2_with fail
  go_quiet ((go_at_call 45; exact Calls.quiet_of_same (HD.out _)))
  go_wp2
  go_ret
  exact ⟨ret_str HK.out, below_drewN HB.out _⟩

set_option maxHeartbeats 1000000 in
theorem iKey (n : Nat) (F : Nat → Bool) (w : World) (hn : n ≤ 12) (hT : TabK w) :
    Calls Tryz.prog 56 #[tv (n : Int) (bs (tab n F))] w fun e w' => e = .returned (.string (bs (keyL n (tab n F)))) ∧ Below w.heap.size w w' := by
  have HO : Hid (∀ W, Calls Tryz.prog 49 #[tv (n : Int) (bs (tab n F))] W fun e w' => e = .returned (.bool true) ∧ Below W.heap.size W w') := fun W => iOk1 n F W hn
  have HD : Hid (∀ W, TabK W → Calls Tryz.prog 117 #[.int .i64 (n : Int)] W fun e w' => e = .returned (.string (bs (dec n))) ∧ Below W.heap.size W w') := fun W h => itoa n (by omega) W h
  have HK : Hid (bs (dec n) ++ ⟨#[58]⟩ ++ bs (tab n F) = bs (keyL n (tab n F))) := key_text n _
  have hds := dec_short hn
  have hss : (bs (tab n F)).size ≤ 4096 := by rw [bs_size, tab_length]; exact (p12 hn).2
  have HTK : Hid (TabK w) := hT
  clear hT
  generalize bs (keyL n (tab n F)) = K at *
  generalize bs (tab n F) = S at *
  generalize bs (dec n) = DS at *
  have HL0 : Hid (Lay (w.alloc (.cells #[.int .i64 (n : Int), .string S] 26)) w.heap.size (.int .i64 (n : Int)) (.string S)) := Lay.made _ _ _ _
  have HA : Hid (Below w.heap.size w (w.alloc (.cells #[.int .i64 (n : Int), .string S] 26))) := (Below.refl _ _).alloc (Nat.le_refl _) _
  go_enter Tryz.func56, Tryz.ntmps56
  go_wp2_with fail
  refine (HO.out _).mono ?_
  rintro e w1 ⟨rfl, hb⟩
  have HB : Hid (Below w.heap.size w w1) := HA.out.trans (hb.mono HA.out.size)
  have HX : Hid (Lay w1 w.heap.size (.int .i64 (n : Int)) (.string S)) := HL0.out.below hb
  clear hb
  obtain ⟨x0, x1, _, _⟩ := HX.out
  go_wp2_with fail
  go_region_with ((go_at_call 117; refine (HD.out _ (HTK.out.below (below_drewN HB.out 1))).mono ?_; rintro e w3 ⟨rfl, hb3⟩; have hS3 := (HX.out.kept (S := fun _ => False) (Nd0.Kept.refl _ _).drew (fun h => h)).below hb3; have HB3 : Hid (Below w.heap.size w w3) := (below_drewN HB.out 1).trans (hb3.mono HB.out.size); obtain ⟨z0, z1, _, _⟩ := hS3))
  all_goals
    go_wp2
    go_ret
    exact ⟨ret_str HK.out, HB3.out⟩

end Go.Proofs.YtmpbedfiamlbpaaGreatDoor.Tk0
