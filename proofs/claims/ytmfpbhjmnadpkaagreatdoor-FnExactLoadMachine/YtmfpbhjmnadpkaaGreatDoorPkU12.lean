/- Small texts of mine, one behind the other. -/
import Derived.Test.YtmfpbhjmnadpkaaGreatDoorRows
import Derived.Lib.LaidTab
import Derived.Lib.AppendIntMem
import Derived.Lib.Itoa
import Derived.OpenShut
import Derived.MakeChecks
import Derived.Lib.AtoiAll
import Derived.Lib.SmallJoins
import Derived.Test.YtmfpbhjmnadpkaaGreatDoorPkU10
import Derived.Test.YtmfpbhjmnadpkaaGreatDoorPkU11
import Derived.Test.YtmfpbhjmnadpkaaGreatDoorPkU3
import Derived.Test.YtmfpbhjmnadpkaaGreatDoorPkU1
import Derived.Test.YtmfpbhjmnadpkaaGreatDoorPkU4
/- The library's table of powers of ten, as the walks read it; TableKey of both sides. -/
namespace Go.Proofs.YtmfpbhjmnadpkaaGreatDoor.Tk0
open Go.RowKit
open Ta0 Ta1 Ta2 Tc2 Tc5 Td1 Te1 Tx0
open Ss0 (bs bs_size bs_app ret_str sDec)
open Ss1 (tl tl_bs bs_tl)
set_option linter.unusedVariables false

/-- The table is laid. -/
structure TabK (w : World) : Prop where
  pow : Lib.TabIs Tryz.prog w "internal/strconv.uint64pow10" .u64 Lib.pow10Tab
theorem TabK.below {w w' : World} (h : TabK w) (k : Below w.heap.size w w') : TabK w' := ⟨Lib.tabBelow_of_tabIs h.pow w' k⟩
theorem laid_at {P : Program} {W : World} : ∀ {laid : List (String × DataW Unit)} {ps : List MemPlace}, DataW.LaidVars P W laid ps → ∀ {n : String} {d : DataW Unit}, (n, d) ∈ laid →
    ∃ g t cs fuel p, P.globalNamed n = some g ∧ (P.globals[g]?).map (·.type) = some t ∧ W.var? P n = some cs ∧ DataW.trod (fun _ => ()) P W 0 (fun _ => true) false fuel t cs.toList = some (d, p) := by
  intro laid
  induction laid with
  | nil => intro ps _ n d h; cases h
  | cons x r ih =>
    intro ps h n d hm
    obtain ⟨n', d'⟩ := x
    obtain ⟨g, t, cs, fuel, p, q, h1, h2, h3, h4, h5, _⟩ := h
    rcases List.mem_cons.1 hm with e | e
    · cases e; exact ⟨g, t, cs, fuel, p, h1, h2, h3, h4⟩
    · exact ih h5 e
theorem gPow : Tryz.prog.globalNamed "internal/strconv.uint64pow10" = some 4 := by kernel_rfl
theorem gtPow : (Tryz.prog.globals[4]?).map (·.type) = some 236 := by kernel_rfl
theorem tabk_of_laid {W : World} {laid : List (String × DataW Unit)} (h : laidMet Tryz.prog laid W)
    (h1 : ("internal/strconv.uint64pow10", Rows.laid_internal_strconv_uint64pow10) ∈ laid) : TabK W := by
  obtain ⟨ps, hL, _⟩ := h
  refine ⟨?_⟩
  obtain ⟨g, t, cs, fuel, p, e1, e2, e3, e4⟩ := laid_at hL h1
  obtain rfl := Option.some.inj (gPow.symm.trans e1)
  obtain rfl := Option.some.inj (gtPow.symm.trans e2)
  unfold Lib.TabIs
  rw [e3, ← Lib.cells_of_tab (k := .u64) (zs := Lib.pow10Tab) Tryz.underlying236 Tryz.underlying148 (by kernel_rfl) (by kernel_rfl) e4]
theorem itoa_dec (n : Nat) : Lib.itoa (n : Int) = dec n := by
  unfold Lib.itoa
  rw [if_neg (by omega), Int.toNat_natCast]
  induction n using Nat.strongRecOn with
  | ind n ih =>
    rw [Lib.decDigits]
    unfold dec
    by_cases h : n < 10
    · rw [dif_pos h]
      by_cases h0 : n = 0
      · subst h0; rfl
      · rw [if_neg h0, digs_pos (by omega), show n / 10 = 0 by omega, digs_zero, show n % 10 = n by omega]; rfl
    · rw [dif_neg h, if_neg (by omega), digs_pos (by omega), ih (n / 10) (by omega)]
      unfold dec
      rw [if_neg (by omega)]
theorem itoa (n : Nat) (hn : n < 1000000000) (w : World) (hT : TabK w) :
    Calls Tryz.prog 117 #[.int .i64 (n : Int)] w fun e w' => e = .returned (.string (bs (dec n))) ∧ Below w.heap.size w w' := by
  refine (Tryz.strconv_Itoa (n : Int) (by omega) (by omega) w hT.pow).mono ?_
  rintro e w' ⟨rfl, k, os, rfl⟩
  exact ⟨by rw [itoa_dec]; rfl, Lib.below_grow _ _ (Nat.le_refl _) k os⟩

/-- The key of a right table. -/
def keyL (n : Nat) (l : List UInt8) : List UInt8 := dec n ++ (58 :: l)
theorem key_text (n : Nat) (l : List UInt8) : bs (dec n) ++ ⟨#[58]⟩ ++ bs l = bs (keyL n l) := by
  rw [show (⟨#[58]⟩ : ByteArray) = bs [58] from rfl, bs_app, bs_app]
  unfold keyL
  congr 1
  simp

set_option maxHeartbeats 1000000 in
theorem sKey0 {N : Int} {S : ByteArray} (w : World) (hS : S.size ≤ 1048576) (h : tokB N (tl S) = false) :
    Calls Tryz.prog 44 #[tv N S] w fun e w' => e = .returned (.string ByteArray.empty) ∧ Below w.heap.size w w' := by
  have HO : Hid (∀ W, Calls Tryz.prog 112 #[tv N S] W fun e w' => e = .returned (.bool false) ∧ Below W.heap.size W w') := fun W => sOk0 W hS h
  have HA : Hid (Below w.heap.size w (w.alloc (.cells #[.int .i64 N, .string S] 26))) := (Below.refl _ _).alloc (Nat.le_refl _) _
  clear h
  go_enter Tryz.func44, Tryz.ntmps44
  go_wp2_with fail
  refine (HO.out _).mono ?_
  rintro e w1 ⟨rfl, hb⟩
  have HB : Hid (Below w.heap.size w w1) := HA.out.trans (hb.mono HA.out.size)
  clear hb
  go_wp2
  go_ret
  exact ⟨rfl, HB.out⟩

set_option maxHeartbeats 1000000 in
theorem iKey0 {N : Int} {S : ByteArray} (w : World) (hS : S.size ≤ 1048576) (h : tokB N (tl S) = false) :
    Calls Tryz.prog 56 #[tv N S] w fun e w' => e = .returned (.string ByteArray.empty) ∧ Below w.heap.size w w' := by
  have HO : Hid (∀ W, Calls Tryz.prog 49 #[tv N S] W fun e w' => e = .returned (.bool false) ∧ Below W.heap.size W w') := fun W => iOk0 W hS h
  have HA : Hid (Below w.heap.size w (w.alloc (.cells #[.int .i64 N, .string S] 26))) := (Below.refl _ _).alloc (Nat.le_refl _) _
  clear h
  go_enter Tryz.func56, Tryz.ntmps56
  go_wp2_with fail
  refine (HO.out _).mono ?_
  rintro e w1 ⟨rfl, hb⟩
  have HB : Hid (Below w.heap.size w w1) := HA.out.trans (hb.mono HA.out.size)
  clear hb
  go_wp2
  go_ret
  exact ⟨rfl, HB.out⟩

theorem dec_short {n : Nat} (h : n ≤ 12) : (bs (dec n)).size ≤ 2 := by
  have : ∀ k : Fin 13, (dec k.val).length ≤ 2 := by decide +kernel
  rw [bs_size]
  exact this ⟨n, by omega⟩

set_option maxHeartbeats 1000000 in
theorem sKey (n : Nat) (F : Nat → Bool) (w : World) (hn : n ≤ 12) :
    Calls Tryz.prog 44 #[tv (n : Int) (bs (tab n F))] w fun e w' => e = .returned (.string (bs (keyL n (tab n F)))) ∧ Below w.heap.size w w' := by
  have HO : Hid (∀ W, Calls Tryz.prog 112 #[tv (n : Int) (bs (tab n F))] W fun e w' => e = .returned (.bool true) ∧ Below W.heap.size W w') := fun W => sOk1 n F W hn
  have HD : Hid (∀ W, Calls Tryz.prog 45 #[.int .i64 (n : Int)] W fun e w' => e = .returned (.string (bs (dec n))) ∧ w' = W) := fun W => sDec n W (by omega)
  have HK : Hid (bs (dec n) ++ ⟨#[58]⟩ ++ bs (tab n F) = bs (keyL n (tab n F))) := key_text n _
  have hds := dec_short hn
  have hss : (bs (tab n F)).size ≤ 4096 := by rw [bs_size, tab_length]; exact (p12 hn).2
  generalize bs (keyL n (tab n F)) = K at *
  generalize bs (tab n F) = S at *
  generalize bs (dec n) = DS at *
  have HL0 : Hid (Lay (w.alloc (.cells #[.int .i64 (n : Int), .string S] 26)) w.heap.size (.int .i64 (n : Int)) (.string S)) := Lay.made _ _ _ _
  have HA : Hid (Below w.heap.size w (w.alloc (.cells #[.int .i64 (n : Int), .string S] 26))) := (Below.refl _ _).alloc (Nat.le_refl _) _
  go_enter Tryz.func44, Tryz.ntmps44
  go_wp2_with fail
  refine (HO.out _).mono ?_
  rintro e w1 ⟨rfl, hb⟩
  have HB : Hid (Below w.heap.size w w1) := HA.out.trans (hb.mono HA.out.size)
  obtain ⟨x0, x1, _, _⟩ := HL0.out.below hb
  clear hb
  go_wp2_with fail
  go_quiet ((go_at_call 45; exact Calls.quiet_of_same (HD.out _)))
  go_wp2
  go_ret
  exact ⟨ret_str HK.out, below_drewN HB.out _⟩

set_option maxHeartbeats 1000000 in
theorem iKey (n : Nat) (F : Nat → Bool) (w : World) (hn : n ≤ 12) (hT : TabK w) :
    Calls Tryz.prog 56 #[tv (n : Int) (bs (tab n F))] w fun e w' => e = .returned (.string (bs (keyL n (tab n F)))) ∧ Below w.heap.size w w' := by
  have HO : Hid (∀ W, Calls Tryz.prog 49 #[tv (n : Int) (bs (tab n F))] W fun e w' => e = .returned (.bool true) ∧ Below W.heap.size W w') := fun W => iOk1 n F W hn
  have HD : Hid (∀ W, TabK W → Calls Tryz.prog 117 #[.int .i64 (n : Int)] W fun e w' => e = .returned (.string (bs (dec n))) ∧ Below W.heap.size W w') := fun W h => itoa n (by omega) W h
  have HK : Hid (bs (dec n) ++ ⟨#[58]⟩ ++ bs (tab n F) = bs (keyL n (tab n F))) := key_text n _
  have hds := dec_short hn
  have hss : (bs (tab n F)).size ≤ 4096 := by rw [bs_size, tab_length]; exact (p12 hn).2
  have HTK : Hid (TabK w) := hT
  clear hT
  generalize bs (keyL n (tab n F)) = K at *
  generalize bs (tab n F) = S at *
  generalize bs (dec n) = DS at *
  have HL0 : Hid (Lay (w.alloc (.cells #[.int .i64 (n : Int), .string S] 26)) w.heap.size (.int .i64 (n : Int)) (.string S)) := Lay.made _ _ _ _
  have HA : Hid (Below w.heap.size w (w.alloc (.cells #[.int .i64 (n : Int), .string S] 26))) := (Below.refl _ _).alloc (Nat.le_refl _) _
  go_enter Tryz.func56, Tryz.ntmps56
  go_wp2_with fail
  refine (HO.out _).mono ?_
  rintro e w1 ⟨rfl, hb⟩
  have HB : Hid (Below w.heap.size w w1) := HA.out.trans (hb.mono HA.out.size)
  have HX : Hid (Lay w1 w.heap.size (.int .i64 (n : Int)) (.string S)) := HL0.out.below hb
  clear hb
  obtain ⟨x0, x1, _, _⟩ := HX.out
  go_wp2_with fail
  go_region_with ((go_at_call 117; refine (HD.out _ (HTK.out.below (below_drewN HB.out 1))).mono ?_; rintro e w3 ⟨rfl, hb3⟩; have hS3 := (HX.out.kept (S := fun _ => False) (Nd0.Kept.refl _ _).drew (fun h => h)).below hb3; have HB3 : Hid (Below w.heap.size w w3) := (below_drewN HB.out 1).trans (hb3.mono HB.out.size); obtain ⟨z0, z1, _, _⟩ := hS3))
  all_goals
    go_wp2
    go_ret
    exact ⟨ret_str HK.out, HB3.out⟩

end Go.Proofs.YtmfpbhjmnadpkaaGreatDoor.Tk0

/- Texts cut at a byte, numbers read, keys read: plain. -/
namespace Go.Proofs.YtmfpbhjmnadpkaaGreatDoor.Zk0
open Tx0 Ta1
open Ss1 (numI)
open Tk0 (keyL)
set_option linter.unusedVariables false

/-- What stands ahead of the first c, and behind it. -/
def cutF (c : UInt8) (s : List UInt8) : List UInt8 := s.takeWhile (fun x => x != c)
def cutS (c : UInt8) (s : List UInt8) : List UInt8 := (s.dropWhile (fun x => x != c)).drop 1
theorem cut_at (d : UInt8) (s : List UInt8) : (if 0 ≤ Lib.index s [d] then s.take (Lib.index s [d]).toNat else s) = cutF d s ∧ (if 0 ≤ Lib.index s [d] then s.drop ((Lib.index s [d]).toNat + 1) else []) = cutS d s := by
  unfold cutF cutS
  induction s with
  | nil => simp [Lib.index]
  | cons c l ih =>
    by_cases h : c = d
    · subst h
      have e : Lib.index (c :: l) [c] = 0 := by unfold Lib.index; rw [if_pos (by simp [List.isPrefixOf])]
      rw [e]
      constructor
      · simp
      · simp
    · have hc : (c != d) = true := by simp [h]
      rw [List.takeWhile_cons_of_pos (p := fun c => c != d) hc, List.dropWhile_cons_of_pos (p := fun c => c != d) hc, ← ih.1, ← ih.2]
      have e : Lib.index (c :: l) [d] = if Lib.index l [d] == -1 then -1 else Lib.index l [d] + 1 := by
        conv => lhs; unfold Lib.index
        rw [if_neg (by simp [List.isPrefixOf]; exact fun z => h z.symm)]
      have hg := Lib.index_ge l [d]
      by_cases e1 : Lib.index l [d] = -1
      · rw [e, e1]; simp
      · have h0 : 0 ≤ Lib.index l [d] := by omega
        have e2 : Lib.index (c :: l) [d] = Lib.index l [d] + 1 := by rw [e, if_neg (by simpa using e1)]
        rw [e2, if_pos (by omega), if_pos h0, if_pos (by omega), if_pos h0, show (Lib.index l [d] + 1).toNat = (Lib.index l [d]).toNat + 1 by omega, List.take_succ_cons, List.drop_succ_cons]
        exact ⟨rfl, rfl⟩
theorem cut_one (d : UInt8) (s : List UInt8) : (Lib.cut s [d]).1 = cutF d s := by
  rw [← (cut_at d s).1]
  unfold Lib.cut
  split <;> rfl
theorem cut_two (d : UInt8) (s : List UInt8) : (Lib.cut s [d]).2.1 = cutS d s := by
  rw [← (cut_at d s).2]
  unfold Lib.cut
  split <;> rfl
theorem cutF_le (c : UInt8) (s : List UInt8) : (cutF c s).length ≤ s.length := (List.takeWhile_sublist _).length_le
theorem cutS_le (c : UInt8) (s : List UInt8) : (cutS c s).length ≤ s.length := by
  unfold cutS
  rw [List.length_drop]
  have := (List.dropWhile_sublist (l := s) (fun x => x != c)).length_le
  omega
theorem cut_app (c : UInt8) (x y : List UInt8) (h : ∀ d ∈ x, d ≠ c) : cutF c (x ++ c :: y) = x ∧ cutS c (x ++ c :: y) = y := by
  unfold cutF cutS
  have hx : ∀ d ∈ x, (d != c) = true := fun d hd => bne_iff_ne.2 (h d hd)
  rw [List.takeWhile_append_of_pos hx, List.dropWhile_append_of_pos hx]
  constructor
  · rw [List.takeWhile_cons_of_neg (by simp), List.append_nil]
  · rw [List.dropWhile_cons_of_neg (by simp)]; rfl
theorem cut_lt (c : UInt8) {s : List UInt8} (h : s ≠ []) : (cutS c s).length < s.length := by
  unfold cutS
  rw [List.length_drop]
  have := (List.dropWhile_sublist (l := s) (fun x => x != c)).length_le
  have := List.length_pos_iff.2 h
  omega

/-- A number as it is read: its value, and whether it is one. -/
def rnP (s : List UInt8) : Int × Bool := match Lib.atoiAll s with
  | .ok v => (v, true)
  | .«syntax» => (0, false)
  | .range => (Lib.atoiSat s, false)
def valF (acc : Nat) (d : List UInt8) : Nat := d.foldl (fun n c => 10 * n + (c.toNat - 48)) acc
theorem valF_zero (d : List UInt8) : valF 0 d = valL d := rfl
theorem parse_digits : ∀ (d : List UInt8) (acc : Nat), (∀ c ∈ d, isDig c = true) → (acc + 1) * 10 ^ d.length ≤ 10 ^ 18 → Lib.parseUint10 acc d = .ok (valF acc d) := by
  intro d
  induction d with
  | nil => intro acc _ _; rfl
  | cons c r ih =>
    intro acc hd hb
    have hc := of_decide_eq_true (hd c (by simp))
    have hp : 0 < 10 ^ r.length := Nat.pow_pos (by omega)
    rw [List.length_cons, Nat.pow_succ] at hb
    have h1 : (acc + 1) * 10 * 10 ^ r.length ≤ 10 ^ 18 := by
      rw [Nat.mul_assoc, Nat.mul_comm 10]; exact hb
    have h2 : (acc + 1) * 10 ≤ 10 ^ 18 := Nat.le_trans (Nat.le_mul_of_pos_right _ hp) h1
    simp only [Lib.parseUint10]
    rw [if_pos hc, if_neg (by omega), if_neg (by omega), ih _ (fun x hx => hd x (by simp [hx]))]
    · unfold valF
      rw [List.foldl_cons, Nat.mul_comm acc]
    · refine Nat.le_trans (Nat.mul_le_mul_right _ ?_) h1
      omega
theorem atoi_digits {d : List UInt8} (hd : ∀ c ∈ d, isDig c = true) (h1 : 1 ≤ d.length) (h9 : d.length ≤ 17) : Lib.atoiAll d = .ok (valL d : Int) := by
  cases d with
  | nil => simp at h1
  | cons c r =>
    have hc := of_decide_eq_true (hd c (by simp))
    have hpw : 10 ^ (c :: r).length ≤ 10 ^ 17 := Nat.pow_le_pow_right (by omega) h9
    have hp := parse_digits (c :: r) 0 hd (by omega)
    have hv : valL (c :: r) < 10 ^ (c :: r).length := val_lt _ hd
    unfold Lib.atoiAll
    simp only
    rw [if_neg (by omega)]
    unfold Lib.parseMag
    rw [if_neg (by simp), hp, valF_zero]
    simp only
    rw [if_neg (by omega), if_neg (by omega), if_neg (by omega)]
theorem dec_len' {n k : Nat} (hk : 1 ≤ k) (h : n < 10 ^ k) : 1 ≤ (dec n).length ∧ (dec n).length ≤ k := by
  unfold dec
  split
  · exact ⟨Nat.le_refl _, hk⟩
  · exact ⟨digs_one (by omega), digs_len k n h⟩
theorem rn_dec {n : Nat} (h : n < 10 ^ 17) : rnP (dec n) = ((n : Int), true) := by
  unfold rnP
  rw [atoi_digits (dec_all n) (dec_len' (by omega) h).1 (dec_len' (by omega) h).2, val_dec]
theorem rn_minus : rnP [45, 49] = (-1, true) := by decide +kernel

theorem dig_not {c d : UInt8} (h : isDig c = true) (hd : isDig d = false) : c ≠ d := fun e => by rw [e, hd] at h; cases h
/-- A key, read. -/
def rkN (s : List UInt8) : Int := (rnP (cutF 58 s)).1
def rkB (s : List UInt8) : Bool := (rnP (cutF 58 s)).2 && (tokB (rkN s) (cutS 58 s) && decide (keyL (rkN s).toNat (cutS 58 s) = s))
theorem key_cut (n : Nat) (l : List UInt8) : cutF 58 (keyL n l) = dec n ∧ cutS 58 (keyL n l) = l := cut_app 58 (dec n) l (fun d hd => dig_not (dec_all n d hd) (by decide))
theorem rk_key {n : Nat} (F : Nat → Bool) (hn : n ≤ 12) : rkB (keyL n (tab n F)) = true ∧ rkN (keyL n (tab n F)) = (n : Int) ∧ cutS 58 (keyL n (tab n F)) = tab n F := by
  obtain ⟨h1, h2⟩ := key_cut n (tab n F)
  have h3 : rkN (keyL n (tab n F)) = (n : Int) := by unfold rkN; rw [h1, rn_dec (by omega)]
  refine ⟨?_, h3, h2⟩
  unfold rkB
  rw [h3, h2, h1, rn_dec (by omega), tab_tok F hn, Int.toNat_natCast]
  simp
theorem rk_of {s : List UInt8} (h : rkB s = true) : ∃ (n : Nat) (F : Nat → Bool), n ≤ 12 ∧ s = keyL n (tab n F) := by
  unfold rkB at h
  obtain ⟨_, h⟩ := Bool.and_eq_true_iff.1 h
  obtain ⟨h1, h2⟩ := Bool.and_eq_true_iff.1 h
  obtain ⟨n, F, hn, hN, hl⟩ := tok_tab h1
  have h3 := of_decide_eq_true h2
  rw [hN, hl, Int.toNat_natCast] at h3
  exact ⟨n, F, hn, h3.symm⟩
/-- A key, as the model reads it. -/
def mkB (s : List UInt8) : Bool := decide ((cutF 58 s).length ≤ 2 ∧ (cutF 58 s).length ≠ s.length) && (tokB (numI (cutF 58 s)) (cutS 58 s) && decide (keyL (numI (cutF 58 s)).toNat (cutS 58 s) = s))
theorem numI_dec {n : Nat} (h : n < 10 ^ 9) : numI (dec n) = (n : Int) := by unfold numI; rw [num_dec h]
theorem dec_two {n : Nat} (h : n ≤ 12) : (dec n).length ≤ 2 := (dec_len' (k := 2) (by omega) (by omega)).2
theorem mk_key {n : Nat} (F : Nat → Bool) (hn : n ≤ 12) : mkB (keyL n (tab n F)) = true ∧ numI (cutF 58 (keyL n (tab n F))) = (n : Int) := by
  obtain ⟨h1, h2⟩ := key_cut n (tab n F)
  have h3 : numI (cutF 58 (keyL n (tab n F))) = (n : Int) := by rw [h1, numI_dec (by omega)]
  refine ⟨?_, h3⟩
  unfold mkB
  rw [h3, h2, h1, tab_tok F hn, Int.toNat_natCast]
  have hl : (dec n).length ≠ (keyL n (tab n F)).length := by unfold keyL; rw [List.length_append, List.length_cons]; omega
  rw [decide_eq_true ⟨dec_two hn, hl⟩]
  simp
theorem mk_of {s : List UInt8} (h : mkB s = true) : ∃ (n : Nat) (F : Nat → Bool), n ≤ 12 ∧ s = keyL n (tab n F) := by
  unfold mkB at h
  obtain ⟨_, h⟩ := Bool.and_eq_true_iff.1 h
  obtain ⟨h1, h2⟩ := Bool.and_eq_true_iff.1 h
  obtain ⟨n, F, hn, hN, hl⟩ := tok_tab h1
  have h3 := of_decide_eq_true h2
  rw [hN, hl, Int.toNat_natCast] at h3
  exact ⟨n, F, hn, h3.symm⟩
theorem mk_rk (s : List UInt8) : mkB s = rkB s := by
  rw [Bool.eq_iff_iff]
  constructor
  · intro h
    obtain ⟨n, F, hn, rfl⟩ := mk_of h
    exact (rk_key F hn).1
  · intro h
    obtain ⟨n, F, hn, rfl⟩ := rk_of h
    exact (mk_key F hn).1
end Go.Proofs.YtmfpbhjmnadpkaaGreatDoor.Zk0

/- Seens as plain data, and what it is that a slice of them can be read, written, kept. Written by tools/mkflat.py. -/
namespace Go.Proofs.YtmfpbhjmnadpkaaGreatDoor.Qc0
open Go.RowKit
open Nd0
set_option linter.unusedVariables false

structure Sn where
  k : ByteArray
  r : Int

def Sn.zero : Sn := ⟨ByteArray.empty, 0⟩
def Sn.cells (x : Sn) : List Value := [.string x.k, .int .i64 x.r]
structure SnAt (w : World) (b p : Nat) (n : Sn) : Prop where
  c0 : w.cell? ⟨b, p, none⟩ = some (.string n.k)
  c1 : w.cell? ⟨b, p + 1, none⟩ = some (.int .i64 n.r)
/-- A slice of l can be read at address a. -/
def Sns (w : World) (a : Option Addr) (l : List Sn) : Prop :=
  l.length ≤ maxLen ∧ (l.length = 0 ∨ ∃ b o, a = some ⟨b, o, none⟩ ∧ ∀ i (h : i < l.length), SnAt w b (o + i * 2) l[i])
theorem SnAt.lt {w : World} {b p : Nat} {n : Sn} (h : SnAt w b p n) : b < w.heap.size := lt_of_cell (p := ⟨b, p, none⟩) h.c0
theorem SnAt.below {w w' : World} {b p : Nat} {n : Sn} (h : SnAt w b p n) {B : Nat} (k : Below B w w') (hb : b < B) : SnAt w' b p n :=
  ⟨by rw [k.cell hb]; exact h.c0, by rw [k.cell hb]; exact h.c1⟩
theorem Sns.below {w w' : World} {a : Option Addr} {l : List Sn} (h : Sns w a l) (k : Below w.heap.size w w') : Sns w' a l := by
  refine ⟨h.1, ?_⟩
  rcases h.2 with h0 | ⟨b, o, rfl, hc⟩
  · exact .inl h0
  · exact .inr ⟨b, o, rfl, fun i hi => (hc i hi).below k (hc i hi).lt⟩
theorem Sns.kept {w w' : World} {a : Option Addr} {l : List Sn} (h : Sns w a l) {S : Nat → Prop} (k : Kept S w w') (hs : ∀ x, a = some x → ¬ S x.block) : Sns w' a l := by
  refine ⟨h.1, ?_⟩
  rcases h.2 with h0 | ⟨b, o, rfl, hc⟩
  · exact .inl h0
  · refine .inr ⟨b, o, rfl, fun i hi => ?_⟩
    have hb := (hc i hi).lt
    have hn : ¬ S b := hs ⟨b, o, none⟩ rfl
    obtain ⟨c0, c1⟩ := hc i hi
    exact ⟨by rw [k.cell hb hn]; exact c0, by rw [k.cell hb hn]; exact c1⟩
/-- A slice of l, in a block from B on, that may be written. -/
def WSns (w : World) (B : Nat) (a : Option Addr) (l : List Sn) : Prop :=
  l.length ≤ maxLen ∧ (l.length = 0 ∨ ∃ b o, a = some ⟨b, o, none⟩ ∧ B ≤ b ∧ (∀ i (h : i < l.length), SnAt w b (o + i * 2) l[i]) ∧ ∀ j, j < l.length * 2 → w.frozen? ⟨b, o + j, none⟩ = false)
theorem WSns.plain {w : World} {B : Nat} {a : Option Addr} {l : List Sn} (h : WSns w B a l) : Sns w a l := by
  refine ⟨h.1, ?_⟩
  rcases h.2 with h0 | ⟨b, o, ha, _, hc, _⟩
  · exact .inl h0
  · exact .inr ⟨b, o, ha, hc⟩
def setSn (w : World) (b p : Nat) (n : Sn) : World :=
  (w.setCell ⟨b, p, none⟩ (.string n.k)).setCell ⟨b, p + 1, none⟩ (.int .i64 n.r)
theorem setSn_same {w : World} {b p : Nat} {v n : Sn} (h : SnAt w b p v) : SnAt (setSn w b p n) b p n := by
  obtain ⟨c0, c1⟩ := h
  unfold setSn
  refine ⟨?_, ?_⟩
  · rw [set_other (by simp)]; exact set_same (c0)
  · exact set_same (by rw [set_other (by simp)]; exact c1)
theorem setSn_cell {w : World} {b p : Nat} {n : Sn} {q : Nat} (h : q < p ∨ p + 2 ≤ q) : (setSn w b p n).cell? ⟨b, q, none⟩ = w.cell? ⟨b, q, none⟩ := by
  unfold setSn
  rw [set_other (by simp <;> omega), set_other (by simp <;> omega)]
theorem setSn_frozen {w : World} {b p : Nat} {n : Sn} {q : Addr} : (setSn w b p n).frozen? q = w.frozen? q := by
  unfold setSn; simp only [World.frozen?_setCell]
theorem setSn_size {w : World} {b p : Nat} {n : Sn} : (setSn w b p n).heap.size = w.heap.size := by
  simp [setSn, World.setCell]
theorem setSn_other {w : World} {b p q : Nat} {v n : Sn} (h : SnAt w b q v) (hq : q + 2 ≤ p ∨ p + 2 ≤ q) : SnAt (setSn w b p n) b q v := by
  obtain ⟨c0, c1⟩ := h
  exact ⟨by rw [setSn_cell (by omega)]; exact c0, by rw [setSn_cell (by omega)]; exact c1⟩
theorem setSn_keptS {S : Nat → Prop} {b p : Nat} {u w : World} {n : Sn} (hS : S b) (h : Kept S u w) : Kept S u (setSn w b p n) :=
  (h.setCell (p := ⟨b, p, none⟩) hS _).setCell (p := ⟨b, p + 1, none⟩) hS _
theorem setSn_kept {b o p : Nat} {u w : World} {n : Sn} (h : Kept (At (some ⟨b, o, none⟩)) u w) : Kept (At (some ⟨b, o, none⟩)) u (setSn w b p n) :=
  setSn_keptS ⟨⟨b, o, none⟩, rfl, rfl⟩ h
/-- A slice of l, in a block from B on and below U, that may be written. -/
def SnsIn (w : World) (B U : Nat) (a : Option Addr) (l : List Sn) : Prop :=
  l.length ≤ maxLen ∧ (l.length = 0 ∨ ∃ b o, a = some ⟨b, o, none⟩ ∧ B ≤ b ∧ b < U ∧ (∀ i (h : i < l.length), SnAt w b (o + i * 2) l[i]) ∧ ∀ j, j < l.length * 2 → w.frozen? ⟨b, o + j, none⟩ = false)
theorem WSns.within {w : World} {B : Nat} {a : Option Addr} {l : List Sn} (h : WSns w B a l) : SnsIn w B w.heap.size a l := by
  refine ⟨h.1, ?_⟩
  by_cases e : l.length = 0
  · exact .inl e
  · rcases h.2 with h0 | ⟨b, o, ha, hB, hc, hf⟩
    · exact .inl h0
    · exact .inr ⟨b, o, ha, hB, (hc 0 (by omega)).lt, hc, hf⟩
theorem SnsIn.wr {w : World} {B U : Nat} {a : Option Addr} {l : List Sn} (h : SnsIn w B U a l) : WSns w B a l := by
  refine ⟨h.1, ?_⟩
  rcases h.2 with h0 | ⟨b, o, ha, hB, _, hc, hf⟩
  · exact .inl h0
  · exact .inr ⟨b, o, ha, hB, hc, hf⟩
theorem SnsIn.kept {w w' : World} {B U : Nat} {a : Option Addr} {l : List Sn} (h : SnsIn w B U a l) {S : Nat → Prop} (k : Kept S w w') (hs : ∀ b, B ≤ b → b < U → ¬ S b) : SnsIn w' B U a l := by
  refine ⟨h.1, ?_⟩
  by_cases e : l.length = 0
  · exact .inl e
  rcases h.2 with h0 | ⟨b, o, rfl, hB, hU, hc, hf⟩
  · exact .inl h0
  · have hb : b < w.heap.size := (hc 0 (by omega)).lt
    have hn : ¬ S b := hs b hB hU
    refine .inr ⟨b, o, rfl, hB, hU, fun i hi => ?_, fun j hj => by rw [k.frozen (p := ⟨b, o + j, none⟩) hb hn]; exact hf j hj⟩
    obtain ⟨c0, c1⟩ := hc i hi
    exact ⟨by rw [k.cell hb hn]; exact c0, by rw [k.cell hb hn]; exact c1⟩
theorem SnsIn.again {w w' : World} {B U : Nat} {a : Option Addr} {l l' : List Sn} (h : SnsIn w B U a l) (h' : WSns w' B a l') (e : l'.length = l.length) : SnsIn w' B U a l' := by
  refine ⟨h'.1, ?_⟩
  rcases h.2 with h0 | ⟨b, o, rfl, hB, hU, hc, hf⟩
  · exact .inl (by omega)
  · rcases h'.2 with h0 | ⟨b', o', ha, hB', hc', hf'⟩
    · exact .inl h0
    · cases ha
      exact .inr ⟨b, o, rfl, hB, hU, hc', hf'⟩
theorem SnsIn.ats {w : World} {B U : Nat} {a : Option Addr} {l : List Sn} (h : SnsIn w B U a l) {k : Nat} (hk : Ats l.length a k) : B ≤ k ∧ k < U := by
  obtain ⟨hp, x, hx, rfl⟩ := hk
  rcases h.2 with h0 | ⟨b, o, rfl, hB, hU, _⟩
  · omega
  · cases hx; exact ⟨hB, hU⟩
theorem SnsIn.below {w w' : World} {B U : Nat} {a : Option Addr} {l : List Sn} (h : SnsIn w B U a l) (k : Below w.heap.size w w') : SnsIn w' B U a l :=
  h.kept (S := fun _ => False) (Kept.ofBelow k) (fun _ _ _ h => h)
theorem SnsIn.plain {w : World} {B U : Nat} {a : Option Addr} {l : List Sn} (h : SnsIn w B U a l) : Sns w a l := h.wr.plain

end Go.Proofs.YtmfpbhjmnadpkaaGreatDoor.Qc0
