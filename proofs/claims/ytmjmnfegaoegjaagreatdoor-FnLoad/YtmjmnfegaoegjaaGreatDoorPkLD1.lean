/- Small texts of mine, one behind the other. -/
import Derived.Deep.RegionWith
import Derived.Test.YtmjmnfegaoegjaaGreatDoorRows
import Derived.WalkKit
import Derived.Deep.QuietTactic
import Derived.BigQuiet
import Derived.Laws.MakeOwn
import Derived.Deep.RegionHeld3
import Derived.Test.YtmjmnfegaoegjaaGreatDoorPkLD0
/- The walks of the model's readers of numbers and words. -/
namespace Go.Proofs.YtmjmnfegaoegjaaGreatDoor.Ss1
open Go.RowKit
open Nd0 Tx0 Ss0
open Ws1 (sIn ret_int)
set_option linter.unusedVariables false

def tl (S : ByteArray) : List UInt8 := S.data.toList
theorem tl_bs (l : List UInt8) : tl (bs l) = l := by simp [tl, bs]
theorem bs_tl (S : ByteArray) : bs (tl S) = S := bs_of S
theorem tl_length (S : ByteArray) : (tl S).length = S.size := by unfold tl ByteArray.size; exact Array.length_toList
theorem tl_get (S : ByteArray) (k : Nat) (h : k < S.size) : S[k] = (tl S)[k]'(by rw [tl_length]; exact h) := rfl
theorem tl_ext (S : ByteArray) (i j : Nat) : tl (S.extract i j) = ((tl S).take j).drop i := by
  have := bs_ext (tl S) i j
  rw [bs_tl] at this
  rw [this, tl_bs]
theorem tl_inj {S T : ByteArray} (h : tl S = tl T) : S = T := by rw [← bs_tl S, ← bs_tl T, h]
theorem tl_take (S : ByteArray) (k : Nat) (h : k < S.size) : (tl S).take (k + 1) = (tl S).take k ++ [S[k]] := by
  rw [List.take_succ_eq_append_getElem (by rw [tl_length]; exact h)]; rfl

theorem eqb (S T : ByteArray) : (S.toList == T.toList) = decide (tl S = tl T) := by
  rw [ByteArray.toList_eq, ByteArray.toList_eq, Bool.eq_iff_iff]
  simp [tl]
theorem eqb_false {S T : ByteArray} (h : tl S ≠ tl T) : (S.toList == T.toList) = false := by rw [eqb]; exact decide_eq_false h
theorem eqb_true {S T : ByteArray} (h : tl S = tl T) : (S.toList == T.toList) = true := by rw [eqb]; exact decide_eq_true h

theorem eql_false {S : ByteArray} {l : List UInt8} (h : tl S ≠ l) : (S.toList == l) = false := by
  rw [ByteArray.toList_eq]
  exact beq_eq_false_iff_ne.2 h
theorem eql_true {S : ByteArray} {l : List UInt8} (h : tl S = l) : (S.toList == l) = true := by
  rw [ByteArray.toList_eq]
  exact beq_iff_eq.2 h

def numI (s : List UInt8) : Int := match numL s with
  | some n => (n : Int)
  | none => -1
theorem num_bad_len {s : List UInt8} (h : s.length = 0 ∨ 9 < s.length) : numI s = -1 := by unfold numI numL; rw [if_pos h]
theorem num_bad_dig {s : List UInt8} (c : UInt8) (hc : c ∈ s) (h : isDig c = false) : numI s = -1 := by
  have : s.all isDig = false := by rw [List.all_eq_false]; exact ⟨c, hc, by simp [h]⟩
  unfold numI numL
  by_cases hl : s.length = 0 ∨ 9 < s.length
  · rw [if_pos hl]
  · rw [if_neg hl, this]; rfl
theorem num_end {s : List UInt8} (hl : ¬ (s.length = 0 ∨ 9 < s.length)) (ha : ∀ c ∈ s, isDig c = true) : numI s = if dec (valL s) = s then (valL s : Int) else -1 := by
  unfold numI numL
  rw [if_neg hl, if_pos (List.all_eq_true.2 ha)]
  by_cases h : dec (valL s) = s
  · rw [if_pos h, if_pos h]
  · rw [if_neg h, if_neg h]

set_option maxHeartbeats 1000000 in
theorem sNum (S : ByteArray) (w : World) (hs : S.size ≤ 100000) :
    Calls Tryz.prog 98 #[.string S] w fun e w' => e = .returned (.int .i64 (numI (tl S))) ∧ w' = w := by
  have hsl := tl_length S
  by_cases hl : (tl S).length = 0 ∨ 9 < (tl S).length
  · have HF : Hid (numI (tl S) = -1) := num_bad_len hl
    by_cases h0 : S.size = 0
    · have hz : ((S.size : Int) == 0) = true := by rw [h0]; rfl
      clear hl hsl
      go_enter Tryz.func98, Tryz.ntmps98
      go_wp2
      go_ret
      exact ⟨ret_int HF.out.symm, rfl⟩
    · have hz : ((S.size : Int) == 0) = false := beq_eq_false_iff_ne.2 (by omega)
      have h9 : 9 < (S.size : Int) := by omega
      clear hl hsl
      go_enter Tryz.func98, Tryz.ntmps98
      go_wp2
      go_ret
      exact ⟨ret_int HF.out.symm, rfl⟩
  · have HL : Hid (¬ ((tl S).length = 0 ∨ 9 < (tl S).length)) := hl
    have hz : ((S.size : Int) == 0) = false := beq_eq_false_iff_ne.2 (by omega)
    have h9 : ¬ 9 < (S.size : Int) := by omega
    have HSL : Hid ((tl S).length = S.size) := hsl
    clear hl hsl
    go_enter Tryz.func98, Tryz.ntmps98
    go_wp2
    go_loop [3, 4] (fun n i => ∃ k : Nat, k ≤ S.size ∧ i = .int .i64 k ∧ n = .int .i64 (valL ((tl S).take k)) ∧ ∀ c ∈ (tl S).take k, isDig c = true) (fun _ i => S.size - (intOf i).toNat)
    case atStart => exact ⟨0, Nat.zero_le _, rfl, rfl, fun c hc => by simp at hc⟩
    case round =>
      obtain ⟨k, hk, rfl, rfl, hd⟩ := hrel
      have HD : Hid (∀ c ∈ (tl S).take k, isDig c = true) := hd
      have hv : valL ((tl S).take k) < 1000000000 := by
        have h1 := val_lt _ hd
        have h2 : ((tl S).take k).length ≤ 9 := by rw [List.length_take]; have := HL.out; omega
        exact Nat.lt_of_lt_of_le h1 (Nat.le_trans (Nat.pow_le_pow_right (by omega) h2) (by decide))
      clear hd
      by_cases hlt : k < S.size
      · have hkz : (k : Int) < (S.size : Int) := by omega
        have HT : Hid ((tl S).take (k + 1) = (tl S).take k ++ [S[k]]) := tl_take S k hlt
        have HM : Hid (S[k] ∈ tl S) := by
          show _ ∈ _
          rw [tl_get S k hlt]; exact List.getElem_mem _
        generalize hV : valL ((tl S).take k) = V at hv
        have HV : Hid (valL ((tl S).take k) = V) := hV
        clear hV
        have hc8 := S[k].toNat_lt
        cases hdg : isDig S[k]
        · have HF : Hid (numI (tl S) = -1) := num_bad_dig S[k] HM.out hdg
          have hb : decide (48 ≤ (S[k].toNat : Int) ∧ (S[k].toNat : Int) ≤ 57) = false := by
            unfold isDig at hdg; simp at hdg ⊢; omega
          go_wp2_with (go_at_call 32; refine (sIn _ _ _ _).mono ?_; rintro e w' ⟨rfl, rfl⟩; rw [hb])
          go_ret
          exact ⟨ret_int HF.out.symm, rfl⟩
        · have hb : decide (48 ≤ (S[k].toNat : Int) ∧ (S[k].toNat : Int) ≤ 57) = true := by
            unfold isDig at hdg; simp at hdg ⊢; omega
          have hcr : 48 ≤ S[k].toNat ∧ S[k].toNat ≤ 57 := by unfold isDig at hdg; simpa using hdg
          have HDG : Hid (isDig S[k] = true) := hdg
          clear hdg
          go_wp2_with (go_at_call 32; refine (sIn _ _ _ _).mono ?_; rintro e w' ⟨rfl, rfl⟩; rw [hb])
          go_round
          case rel =>
            refine ⟨k + 1, by omega, by go_num, ?_, ?_⟩
            · rw [HT.out, valL_snoc, HV.out]
              congr 1
              omega
            · rw [HT.out]
              intro c hc
              rcases List.mem_append.1 hc with h | h
              · exact HD.out c h
              · have : c = S[k] := by simpa using h
                rw [this]; exact HDG.out
          case measure => simp [intOf]; omega
      · have hkz : ¬ (k : Int) < (S.size : Int) := by omega
        have ht : (tl S).take k = tl S := List.take_of_length_le (by have := HSL.out; omega)
        rw [ht] at hv ⊢
        have HE : Hid (numI (tl S) = if dec (valL (tl S)) = tl S then (valL (tl S) : Int) else -1) := by
          have := HD.out
          rw [ht] at this
          exact num_end HL.out this
        clear ht
        generalize hV : valL (tl S) = V at hv HE
        clear hV
        by_cases he : dec V = tl S
        · have hq : bs (dec V) = S := by rw [he, bs_tl]
          have HE2 : Hid (numI (tl S) = (V : Int)) := by show _ = _; rw [HE.out, if_pos he]
          clear he
          go_wp2_with (go_at_call 38; refine (sDec V _ hv).mono ?_; rintro e w' ⟨rfl, rfl⟩; rw [hq])
          go_ret
          exact ⟨ret_int HE2.out.symm, rfl⟩
        · have hq : ((bs (dec V)).toList == S.toList) = false := eqb_false (by rw [tl_bs]; exact he)
          have HE2 : Hid (numI (tl S) = -1) := by show _ = _; rw [HE.out, if_neg he]
          clear he
          go_wp2_with (go_at_call 38; refine (sDec V _ hv).mono ?_; rintro e w' ⟨rfl, rfl⟩)
          go_ret
          exact ⟨ret_int HE2.out.symm, rfl⟩

end Go.Proofs.YtmjmnfegaoegjaaGreatDoor.Ss1

/- TableOk of both sides; small functions of the laws over tables. -/
namespace Go.Proofs.YtmjmnfegaoegjaaGreatDoor.Tc2
open Go.RowKit
open Ta0 Ta1
open Ss0 (bs bs_size ret_str)
open Ss1 (tl tl_length tl_get tl_take bs_tl tl_bs)
set_option linter.unusedVariables false

theorem ret_int {k : IntKind} {a b : Int} (h : a = b) : Ending.returned (.int k a) = .returned (.int k b) := by rw [h]
theorem ret_bool {a b : Bool} (h : a = b) : Ending.returned (.bool a) = .returned (.bool b) := by rw [h]
theorem wsh {n : Nat} (h : n ≤ 12) : IntKind.i64.wrap ((2 : Int) ^ n) = ((2 ^ n : Nat) : Int) := by
  have := p12 h
  rw [pcast, IntKind.wrap_i64] <;> omega
theorem below_drewN {B : Nat} {u w : World} (h : Below B u w) (n : Nat) : Below B u (w.drewN n) := ⟨h.os, h.tape, h.output, h.size, h.block⟩

set_option maxHeartbeats 400000 in
theorem sPow (n : Nat) (w : World) (h1 : n ≤ 12) :
    Calls Tryz.prog 100 #[.int .i64 (n : Int)] w fun e w' => e = .returned (.int .i64 ((2 ^ n : Nat) : Int)) ∧ w' = w := by
  go_enter Tryz.func100, Tryz.ntmps100
  go_wp2
  go_loop [3, 4] (fun x i => ∃ k : Nat, k ≤ n ∧ i = .int .i64 k ∧ x = .int .i64 ((2 ^ k : Nat) : Int)) (fun _ i => n - (intOf i).toNat)
  case atStart => exact ⟨0, Nat.zero_le _, rfl, rfl⟩
  case round =>
    obtain ⟨k, hk, rfl, rfl⟩ := hrel
    obtain ⟨hp, hl⟩ := p12 (n := k) (by omega)
    have HS : Hid (2 ^ (k + 1) = 2 * 2 ^ k) := by show _ = _; rw [Nat.pow_succ]; omega
    generalize hP : 2 ^ k = P at hp hl HS ⊢
    by_cases hlt : k < n
    · clear hP
      go_wp2
      go_round
      case rel => exact ⟨k + 1, by omega, by go_num, by rw [HS.out]; go_num⟩
      case measure => simp [intOf]; omega
    · have HP : Hid (2 ^ k = P) := hP
      clear hP
      go_wp2
      go_ret
      have : k = n := by omega
      subst this
      exact ⟨ret_int (by rw [pcast, HP.out]), rfl⟩

set_option maxHeartbeats 400000 in
theorem sIn (x a b : Int) (w : World) :
    Calls Tryz.prog 32 #[.int .i64 x, .int .i64 a, .int .i64 b] w fun e w' => e = .returned (.bool (decide (a ≤ x ∧ x ≤ b))) ∧ w' = w := by
  by_cases h1 : a ≤ x <;> by_cases h2 : x ≤ b
  all_goals
    go_enter Tryz.func32, Tryz.ntmps32
    go_wp2
    go_ret
    exact ⟨ret_bool (by simp <;> omega), rfl⟩

theorem sInT {x a b : Int} (w : World) (h : a ≤ x ∧ x ≤ b) :
    Calls Tryz.prog 32 #[.int .i64 x, .int .i64 a, .int .i64 b] w fun e w' => e = .returned (.bool true) ∧ w' = w := by
  have := sIn x a b w
  rwa [decide_eq_true h] at this
theorem sInF {x a b : Int} (w : World) (h : ¬ (a ≤ x ∧ x ≤ b)) :
    Calls Tryz.prog 32 #[.int .i64 x, .int .i64 a, .int .i64 b] w fun e w' => e = .returned (.bool false) ∧ w' = w := by
  have := sIn x a b w
  rwa [decide_eq_false h] at this

abbrev tv (N : Int) (S : ByteArray) : Value := .agg #[.int .i64 N, .string S]

set_option maxHeartbeats 2000000 in
theorem sTableOk (N : Int) (S : ByteArray) (w : World) (hS : S.size ≤ 1048576) :
    Calls Tryz.prog 87 #[tv N S] w fun e w' => e = .returned (.bool (tokB N (tl S))) ∧ Below w.heap.size w w' := by
  have HB : Hid (∀ k, Below w.heap.size w ((w.alloc (.cells #[.int .i64 N, .string S] 26)).drewN k)) := fun k => below_drewN ((Below.refl _ _).alloc (Nat.le_refl _) _) k
  by_cases hN : 0 ≤ N ∧ N ≤ 12
  · obtain ⟨n, rfl⟩ := Int.eq_ofNat_of_zero_le hN.1
    have HI : Hid (∀ W, Calls Tryz.prog 32 #[.int .i64 (n : Int), .int .i64 0, .int .i64 12] W fun e w' => e = .returned (.bool true) ∧ w' = W) := fun W => sInT W hN
    have hn : n ≤ 12 := by omega
    obtain ⟨hp, hl⟩ := p12 hn
    have HC : Hid (∀ W, Calls Tryz.prog 100 #[.int .i64 (n : Int)] W fun e w' => e = .returned (.int .i64 ((2 ^ n : Nat) : Int)) ∧ w' = W) := fun W => sPow n W hn
    have HL : Hid (S.size ≠ 2 ^ n → tokB (n : Int) (tl S) = false) := fun h => tok_len (by rw [tl_length, Int.toNat_natCast]; exact h)
    have HT : Hid (S.size = 2 ^ n → (∀ c ∈ tl S, c = 48 ∨ c = 49) → tokB (n : Int) (tl S) = true) := fun h k => decide_eq_true ⟨hN.1, hN.2, by rw [tl_length, Int.toNat_natCast]; exact h, k⟩
    clear hN
    generalize 2 ^ n = P at hp hl HC HL HT
    by_cases hs : S.size = P
    · have hsz : ((S.size : Int) != (P : Int)) = false := by rw [hs]; simp
      have HS : Hid (S.size = P) := hs
      have hS2 : S.size ≤ 4096 := by omega
      clear hs
      go_enter Tryz.func87, Tryz.ntmps87
      go_wp2_with fail
      go_quiet ((first | (go_at_call 32; exact Calls.quiet_of_same (HI.out _)) | (go_at_call 100; exact Calls.quiet_of_same (HC.out _))))
      go_wp2
      go_loop [3] (fun i => ∃ k : Nat, k ≤ S.size ∧ i = .int .i64 k ∧ ∀ c ∈ (tl S).take k, c = 48 ∨ c = 49) (fun i => S.size - (intOf i).toNat)
      case atStart => exact ⟨0, Nat.zero_le _, rfl, fun c hc => by simp at hc⟩
      case round =>
        obtain ⟨k, hk, rfl, hc⟩ := hrel
        have HK : Hid (∀ c ∈ (tl S).take k, c = 48 ∨ c = 49) := hc
        clear hc
        by_cases hlt : k < S.size
        · have hkz : (k : Int) < (S.size : Int) := by omega
          have HX : Hid ((tl S).take (k + 1) = (tl S).take k ++ [S[k]]) := tl_take S k hlt
          have HM : Hid (S[k] ∈ tl S) := by
            show _ ∈ _
            rw [tl_get S k hlt]; exact List.getElem_mem _
          by_cases h8 : S[k] = 48
          · have b8 : ((S[k].toNat : Int) != 48) = false := by rw [h8]; rfl
            have H8 : Hid (S[k] = 48 ∨ S[k] = 49) := .inl h8
            clear h8
            go_wp2
            go_round
            case rel => exact ⟨k + 1, by omega, by go_num, fun c hc => by
              rw [HX.out] at hc
              rcases List.mem_append.1 hc with h | h
              · exact HK.out c h
              · rw [List.mem_singleton.1 h]; exact H8.out⟩
            case measure => simp [intOf]; omega
          · have b8 : ((S[k].toNat : Int) != 48) = true := bne_iff_ne.2 fun e => h8 (UInt8.toNat_inj.1 (by have : (48 : UInt8).toNat = 48 := rfl; omega))
            by_cases h9 : S[k] = 49
            · have b9 : ((S[k].toNat : Int) != 49) = false := by rw [h9]; rfl
              have H8 : Hid (S[k] = 48 ∨ S[k] = 49) := .inr h9
              clear h8 h9
              go_wp2
              go_round
              case rel => exact ⟨k + 1, by omega, by go_num, fun c hc => by
                rw [HX.out] at hc
                rcases List.mem_append.1 hc with h | h
                · exact HK.out c h
                · rw [List.mem_singleton.1 h]; exact H8.out⟩
              case measure => simp [intOf]; omega
            · have b9 : ((S[k].toNat : Int) != 49) = true := bne_iff_ne.2 fun e => h9 (UInt8.toNat_inj.1 (by have : (49 : UInt8).toNat = 49 := rfl; omega))
              have HF : Hid (tokB (n : Int) (tl S) = false) := tok_sign HM.out ⟨h8, h9⟩
              clear h8 h9
              go_wp2
              go_ret
              exact ⟨ret_bool HF.out.symm, HB.out _⟩
        · have HF : Hid (tokB (n : Int) (tl S) = true) := HT.out HS.out (by
            have := HK.out
            rwa [List.take_of_length_le (by rw [tl_length]; omega)] at this)
          go_wp2
          go_ret
          exact ⟨ret_bool HF.out.symm, HB.out _⟩
    · have hsz : ((S.size : Int) != (P : Int)) = true := bne_iff_ne.2 (by omega)
      have HF : Hid (tokB (n : Int) (tl S) = false) := HL.out hs
      clear hs
      go_enter Tryz.func87, Tryz.ntmps87
      go_wp2_with fail
      go_quiet ((first | (go_at_call 32; exact Calls.quiet_of_same (HI.out _)) | (go_at_call 100; exact Calls.quiet_of_same (HC.out _))))
      go_wp2
      go_ret
      exact ⟨ret_bool HF.out.symm, HB.out _⟩
  · have HI : Hid (∀ W, Calls Tryz.prog 32 #[.int .i64 N, .int .i64 0, .int .i64 12] W fun e w' => e = .returned (.bool false) ∧ w' = W) := fun W => sInF W hN
    have HF : Hid (tokB N (tl S) = false) := tok_no hN
    clear hN
    go_enter Tryz.func87, Tryz.ntmps87
    go_wp2_with fail
    go_quiet ((go_at_call 32; exact Calls.quiet_of_same (HI.out _)))
    go_wp2
    go_ret
    exact ⟨ret_bool HF.out.symm, HB.out _⟩

set_option maxHeartbeats 2000000 in
theorem iTableOk (N : Int) (S : ByteArray) (w : World) (hS : S.size ≤ 1048576) :
    Calls Tryz.prog 42 #[tv N S] w fun e w' => e = .returned (.bool (tokB N (tl S))) ∧ Below w.heap.size w w' := by
  have HB : Hid (∀ k, Below w.heap.size w ((w.alloc (.cells #[.int .i64 N, .string S] 26)).drewN k)) := fun k => below_drewN ((Below.refl _ _).alloc (Nat.le_refl _) _) k
  by_cases h0 : N < 0
  · have HF : Hid (tokB N (tl S) = false) := tok_no (by omega)
    go_enter Tryz.func42, Tryz.ntmps42
    go_wp2_with fail
    go_quiet (fail)
    go_wp2
    go_ret
    exact ⟨ret_bool HF.out.symm, HB.out _⟩
  by_cases h1 : 12 < N
  · have HF : Hid (tokB N (tl S) = false) := tok_no (by omega)
    go_enter Tryz.func42, Tryz.ntmps42
    go_wp2_with fail
    go_quiet (fail)
    go_wp2
    go_ret
    exact ⟨ret_bool HF.out.symm, HB.out _⟩
  obtain ⟨n, rfl⟩ := Int.eq_ofNat_of_zero_le (by omega : 0 ≤ N)
  have hn : n ≤ 12 := by omega
  obtain ⟨hp, hl⟩ := p12 hn
  have HL : Hid (S.size ≠ 2 ^ n → tokB (n : Int) (tl S) = false) := fun h => tok_len (by rw [tl_length, Int.toNat_natCast]; exact h)
  have HT : Hid (S.size = 2 ^ n → (∀ c ∈ tl S, c = 48 ∨ c = 49) → tokB (n : Int) (tl S) = true) := fun h k => decide_eq_true ⟨by omega, by omega, by rw [tl_length, Int.toNat_natCast]; exact h, k⟩
  have hw := wsh hn
  have hd0 : decide ((n : Int) < 0) = false := decide_eq_false (by omega)
  have hd1 : decide (12 < (n : Int)) = false := decide_eq_false (by omega)
  generalize 2 ^ n = P at hp hl HL HT hw
  by_cases hs : S.size = P
  · have hsz : ((S.size : Int) != (P : Int)) = false := by rw [hs]; simp
    have HS : Hid (S.size = P) := hs
    have hS2 : S.size ≤ 4096 := by omega
    clear hs
    go_enter Tryz.func42, Tryz.ntmps42
    go_wp2_with fail
    go_quiet (fail)
    go_wp2
    go_loop [24] (fun i => ∃ k : Nat, k ≤ S.size ∧ i = .int .i64 k ∧ ∀ c ∈ (tl S).take k, c = 48 ∨ c = 49) (fun i => S.size - (intOf i).toNat)
    case atStart => exact ⟨0, Nat.zero_le _, rfl, fun c hc => by simp at hc⟩
    case round =>
      obtain ⟨k, hk, rfl, hc⟩ := hrel
      have HK : Hid (∀ c ∈ (tl S).take k, c = 48 ∨ c = 49) := hc
      clear hc
      by_cases hlt : k < S.size
      · have hkz : (k : Int) < (S.size : Int) := by omega
        have HX : Hid ((tl S).take (k + 1) = (tl S).take k ++ [S[k]]) := tl_take S k hlt
        have HM : Hid (S[k] ∈ tl S) := by
          show _ ∈ _
          rw [tl_get S k hlt]; exact List.getElem_mem _
        by_cases h8 : S[k] = 48
        · have b8 : ((S[k].toNat : Int) != 48) = false := by rw [h8]; rfl
          have H8 : Hid (S[k] = 48 ∨ S[k] = 49) := .inl h8
          clear h8
          go_wp2
          go_round
          case rel => exact ⟨k + 1, by omega, by go_num, fun c hc => by
            rw [HX.out] at hc
            rcases List.mem_append.1 hc with h | h
            · exact HK.out c h
            · rw [List.mem_singleton.1 h]; exact H8.out⟩
          case measure => simp [intOf]; omega
        · have b8 : ((S[k].toNat : Int) != 48) = true := bne_iff_ne.2 fun e => h8 (UInt8.toNat_inj.1 (by have : (48 : UInt8).toNat = 48 := rfl; omega))
          by_cases h9 : S[k] = 49
          · have b9 : ((S[k].toNat : Int) != 49) = false := by rw [h9]; rfl
            have H8 : Hid (S[k] = 48 ∨ S[k] = 49) := .inr h9
            clear h8 h9
            go_wp2
            go_round
            case rel => exact ⟨k + 1, by omega, by go_num, fun c hc => by
              rw [HX.out] at hc
              rcases List.mem_append.1 hc with h | h
              · exact HK.out c h
              · rw [List.mem_singleton.1 h]; exact H8.out⟩
            case measure => simp [intOf]; omega
          · have b9 : ((S[k].toNat : Int) != 49) = true := bne_iff_ne.2 fun e => h9 (UInt8.toNat_inj.1 (by have : (49 : UInt8).toNat = 49 := rfl; omega))
            have HF : Hid (tokB (n : Int) (tl S) = false) := tok_sign HM.out ⟨h8, h9⟩
            clear h8 h9
            go_wp2
            go_ret
            exact ⟨ret_bool HF.out.symm, HB.out _⟩
      · have HF : Hid (tokB (n : Int) (tl S) = true) := HT.out HS.out (by
          have := HK.out
          rwa [List.take_of_length_le (by rw [tl_length]; omega)] at this)
        go_wp2
        go_ret
        exact ⟨ret_bool HF.out.symm, HB.out _⟩
  · have hsz : ((S.size : Int) != (P : Int)) = true := bne_iff_ne.2 (by omega)
    have HF : Hid (tokB (n : Int) (tl S) = false) := HL.out hs
    clear hs
    go_enter Tryz.func42, Tryz.ntmps42
    go_wp2_with fail
    go_quiet (fail)
    go_wp2
    go_ret
    exact ⟨ret_bool HF.out.symm, HB.out _⟩

end Go.Proofs.YtmjmnfegaoegjaaGreatDoor.Tc2

/- Small functions of the laws over tables; the exact law of TableOk. -/
namespace Go.Proofs.YtmjmnfegaoegjaaGreatDoor.Tc3
open Go.RowKit
open Ta0 Ta1 Tc2
open Ss0 (bs bs_size ret_str)
open Ss1 (tl tl_length tl_get tl_take bs_tl tl_bs tl_inj eqb)
set_option linter.unusedVariables false

end Go.Proofs.YtmjmnfegaoegjaaGreatDoor.Tc3

/- Packed tables in memory: a new one, its size, a bit read, a bit put. -/
namespace Go.Proofs.YtmjmnfegaoegjaaGreatDoor.Tc4
open Go.RowKit
open Ta0 Ta1 Tc2
open Nd0 (Kept set_other set_same lt_of_cell)
set_option linter.unusedVariables false

end Go.Proofs.YtmjmnfegaoegjaaGreatDoor.Tc4

/- Packed tables: one made of a table. -/
namespace Go.Proofs.YtmjmnfegaoegjaaGreatDoor.Tc5
open Go.RowKit
open Ta0 Ta1 Tc2 Tc4
open Nd0 (Kept set_other set_same lt_of_cell)
open Ss0 (bs bs_size ret_str)
open Ss1 (tl tl_length tl_get tl_take bs_tl tl_bs tl_inj eqb)
set_option linter.unusedVariables false

structure Lay (W : World) (b : Nat) (x y : Value) : Prop where
  c0 : W.cell? ⟨b, 0, none⟩ = some x
  c1 : W.cell? ⟨b, 1, none⟩ = some y
  f0 : W.frozen? ⟨b, 0, none⟩ = false
  f1 : W.frozen? ⟨b, 1, none⟩ = false
theorem Lay.lt {W : World} {b : Nat} {x y : Value} (h : Lay W b x y) : b < W.heap.size := World.block_lt_of_cell? _ _ h.c0
theorem Lay.kept {W W' : World} {b : Nat} {x y : Value} (h : Lay W b x y) {S : Nat → Prop} (k : Kept S W W') (hs : ¬ S b) : Lay W' b x y :=
  ⟨by rw [k.cell (p := ⟨b, 0, none⟩) h.lt hs]; exact h.c0, by rw [k.cell (p := ⟨b, 1, none⟩) h.lt hs]; exact h.c1, by rw [k.frozen (p := ⟨b, 0, none⟩) h.lt hs]; exact h.f0, by rw [k.frozen (p := ⟨b, 1, none⟩) h.lt hs]; exact h.f1⟩
theorem Lay.below {W W' : World} {b : Nat} {x y : Value} (h : Lay W b x y) (k : Below W.heap.size W W') : Lay W' b x y :=
  h.kept (S := fun _ => False) (Kept.ofBelow k) (fun h => h)
theorem Lay.made (W : World) (x y : Value) (T : Nat) : Lay (W.alloc (.cells #[x, y] T)) W.heap.size x y := ⟨by simp, by simp, by simp, by simp⟩
theorem Lay.alloc {W : World} {b : Nat} {x y : Value} (h : Lay W b x y) (o : Obj) : Lay (W.alloc o) b x y := h.kept (S := fun _ => False) ((Kept.refl _ _).alloc _) (fun h => h)
theorem Lay.put {W : World} {b : Nat} {x y : Value} (h : Lay W b x y) (u v : Value) : Lay ((W.setCell ⟨b, 0, none⟩ u).setCell ⟨b, 1, none⟩ v) b u v :=
  ⟨by rw [set_other (by simp)]; exact set_same h.c0, set_same (by rw [set_other (by simp)]; exact h.c1), by rw [World.frozen?_setCell, World.frozen?_setCell]; exact h.f0, by rw [World.frozen?_setCell, World.frozen?_setCell]; exact h.f1⟩
theorem kset {S : Nat → Prop} {u w : World} (h : Kept S u w) {b o : Nat} (hb : S b) (x : Value) : Kept S u (w.setCell ⟨b, o, none⟩ x) := h.setCell (p := ⟨b, o, none⟩) hb x

theorem bs_tab_get (n : Nat) (F : Nat → Bool) (k : Nat) (h : k < (bs (tab n F)).size) : (bs (tab n F))[k] = sgn (F k) := by
  rw [tl_get]
  have e : tl (bs (tab n F)) = tab n F := tl_bs _
  have h2 : k < (tab n F).length := by rw [bs_size] at h; exact h
  have := tab_get n F k h2
  rw [← this]
  congr 1

end Go.Proofs.YtmjmnfegaoegjaaGreatDoor.Tc5
