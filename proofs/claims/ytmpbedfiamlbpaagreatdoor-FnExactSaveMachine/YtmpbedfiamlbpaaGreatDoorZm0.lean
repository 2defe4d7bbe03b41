/- The model's l03Dec of all numbers of a machine, l11Vals, l11Plain, l01Bool. -/
import Derived.Test.YtmpbedfiamlbpaaGreatDoorZs1
namespace Go.Proofs.YtmpbedfiamlbpaaGreatDoor.Zm0
open Go.RowKit
open Nd0 (Kept Ints lt_of_cell)
open Tx0 Zs0
open Ss0 (bs bs_size bs_app ret_str digit_cut)
open Ss1 (tl tl_length tl_take tl_get tl_bs)
open Tc2 (ret_bool sInT sInF)
open Ta2 (bitB)
open Wp1 (vt dgt bit_two)
open Tk0 (itoa_dec)
open Zs1 (pl_no pl_end)
set_option linter.unusedVariables false

set_option maxHeartbeats 400000 in
theorem sDecN (n : Nat) (w : World) (h : n < 10000000000) :
    Calls Tryz.prog 45 #[.int .i64 n] w fun e w' => e = .returned (.string (bs (dec n))) ∧ w' = w := by
  by_cases h0 : n = 0
  · subst h0
    go_enter Tryz.func45, Tryz.ntmps45
    go_wp2
    go_ret
    exact ⟨rfl, rfl⟩
  · have hz : ¬ (n : Int) = 0 := by omega
    go_enter Tryz.func45, Tryz.ntmps45
    go_wp2
    go_loop [3, 4] (fun o m => ∃ (k : Nat) (s : List UInt8), k ≤ n ∧ m = .int .i64 k ∧ o = .string (bs s) ∧ digs n = digs k ++ s ∧ s.length + (digs k).length ≤ 10) (fun _ m => (intOf m).toNat)
    case atStart => exact ⟨n, [], Nat.le_refl _, rfl, rfl, by simp, by have := digs_len 10 n h; simpa using this⟩
    case round =>
      obtain ⟨k, s, hk, rfl, rfl, hd, hl⟩ := hrel
      have HD : Hid (digs n = digs k ++ s) := hd
      clear hd
      by_cases hk0 : k = 0
      · subst hk0
        have HE : Hid (bs s = bs (dec n)) := by
          show _ = _
          unfold dec
          rw [if_neg h0, HD.out, digs_zero]; rfl
        have hnn : ¬ (n : Int) < 0 := by omega
        go_wp2
        go_ret
        exact ⟨ret_str HE.out, rfl⟩
      · have hkz : ¬ (k : Int) = 0 := by omega
        have hr1 : 0 ≤ (k : Int) % 10 := by omega
        have hr2 : (k : Int) % 10 < 10 := by omega
        have hr3 : ¬ (k : Int) % 10 < 0 := by omega
        have hss : (bs s).size ≤ 10 := by rw [bs_size]; omega
        have hp := digs_pos (n := k) (by omega)
        have HN : Hid (digs n = digs (k / 10) ++ (UInt8.ofNat (48 + k % 10) :: s)) := by
          show _ = _
          rw [HD.out, hp]; simp
        have HL : Hid ((UInt8.ofNat (48 + k % 10) :: s).length + (digs (k / 10)).length ≤ 10) := by
          show _ ≤ _
          rw [hp] at hl
          simp at hl ⊢; omega
        clear hp
        go_wp2
        go_round
        case rel => exact ⟨k / 10, UInt8.ofNat (48 + k % 10) :: s, by omega, by go_num, by rw [digit_cut _ (by omega), bs_app]; rfl, HN.out, HL.out⟩
        case measure => simp [intOf]; omega
theorem sDecM (w : World) : Calls Tryz.prog 45 #[.int .i64 (-1)] w fun e w' => e = .returned (.string (bs [45, 49])) ∧ w' = w := by
  go_enter Tryz.func45, Tryz.ntmps45
  go_wp2
  go_loop [3, 4] (fun o m => (m = .int .i64 (-1) ∧ o = .string ⟨#[]⟩) ∨ (m = .int .i64 0 ∧ o = .string ⟨#[49]⟩)) (fun _ m => (- intOf m).toNat)
  case atStart => exact .inl ⟨rfl, rfl⟩
  case round =>
    rcases hrel with ⟨rfl, rfl⟩ | ⟨rfl, rfl⟩
    · go_wp2
      go_round
      case rel => exact .inr ⟨by go_num, rfl⟩
      case measure => simp [intOf]
    · go_wp2
      go_ret
      exact ⟨rfl, rfl⟩
theorem sDecI (n : Int) (h0 : -1 ≤ n) (h1 : n ≤ 1000000000) (w : World) :
    Calls Tryz.prog 45 #[.int .i64 n] w fun e w' => e = .returned (.string (bs (Lib.itoa n))) ∧ w' = w := by
  by_cases h : n = -1
  · subst h; rw [itoa_neg]; exact sDecM w
  · obtain ⟨k, rfl⟩ := Int.eq_ofNat_of_zero_le (by omega : 0 ≤ n)
    rw [itoa_dec]
    exact sDecN k w (by omega)
theorem sBool (b : Bool) (w : World) : Calls Tryz.prog 47 #[.bool b] w fun e w' => e = .returned (.int .i64 (bI b)) ∧ w' = w := by
  cases b
  · go_enter Tryz.func47, Tryz.ntmps47
    go_wp2
    go_ret
    exact ⟨rfl, rfl⟩
  · go_enter Tryz.func47, Tryz.ntmps47
    go_wp2
    go_ret
    exact ⟨rfl, rfl⟩
theorem itoa_bit {x : Int} (h : bitB x = true) : Lib.itoa x = [dgt x] := by
  rcases bit_two h with rfl | rfl <;> decide +kernel
set_option maxRecDepth 100000 in
set_option maxHeartbeats 2000000 in
theorem sVals (w : World) (a : Option Addr) (l : List Int) (c : Nat) (h : Ints w a l) (hl : l.length ≤ 12) (hb : ∀ b ∈ l, bitB b = true) :
    Calls Tryz.prog 46 #[.slice a l.length c] w fun e w' => e = .returned (.string (bs (vt l))) ∧ w' = w := by
  have H : Hid (Ints w a l) := h
  have HBT : Hid (∀ b ∈ l, bitB b = true) := hb
  clear h hb
  obtain ⟨n, hn⟩ : ∃ n, n = l.length := ⟨_, rfl⟩
  rw [← hn]
  have hn2 : n ≤ 12 := by omega
  have HN : Hid (n = l.length) := hn
  obtain ⟨TK, hTK⟩ : ∃ TK : Nat → List UInt8, TK = fun k => (l.take k).map dgt := ⟨_, rfl⟩
  have HTK : Hid (TK = fun k => (l.take k).map dgt) := hTK
  have HTL : Hid (∀ k, k ≤ n → (TK k).length = k) := by intro k hk; rw [hTK]; simp; omega
  have HT0 : Hid (TK 0 = []) := by show _ = _; rw [hTK]; rfl
  clear hn hl hTK
  go_enter Tryz.func46, Tryz.ntmps46
  go_wp2
  go_loop [3, 4] (fun v i => ∃ k : Nat, k ≤ n ∧ i = .int .i64 k ∧ v = .string (bs (TK k))) (fun _ i => n - (intOf i).toNat)
  case atStart => exact ⟨0, Nat.zero_le _, rfl, by rw [HT0.out]; rfl⟩
  case round =>
    obtain ⟨k, hk, rfl, rfl⟩ := hrel
    by_cases hlt : k < n
    · have hlz : (k : Int) < (n : Int) := by omega
      have hkl : k < l.length := by have := HN.out; omega
      obtain ⟨b, o, ha, hc⟩ : ∃ b o, a = some ⟨b, o, none⟩ ∧ w.cell? ⟨b, o + k, none⟩ = some (.int .i64 l[k]) := by
        rcases H.out.2 with e | ⟨b, o, e, hc⟩
        · omega
        · exact ⟨b, o, e, hc k hkl⟩
      subst ha
      have HBK : Hid (bitB l[k] = true) := HBT.out _ (List.getElem_mem hkl)
      have HNX : Hid (TK (k + 1) = TK k ++ [dgt l[k]]) := by
        show _ = _
        rw [HTK.out]
        show (l.take (k + 1)).map dgt = (l.take k).map dgt ++ [dgt l[k]]
        rw [List.take_succ_eq_append_getElem hkl, List.map_append]
        rfl
      generalize l[k] = x at *
      have HDE : Hid (∀ W, Calls Tryz.prog 45 #[.int .i64 x] W fun e w' => e = .returned (.string (bs [dgt x])) ∧ w' = W) := fun W => by
        have := sDecI x (by rcases bit_two HBK.out with e | e <;> omega) (by rcases bit_two HBK.out with e | e <;> omega) W
        rwa [itoa_bit HBK.out] at this
      obtain ⟨T, hT⟩ : ∃ T, T = bs (TK k) := ⟨_, rfl⟩
      have hTz : T.size ≤ 12 := by rw [hT, bs_size, HTL.out k hk]; omega
      obtain ⟨D, hD⟩ : ∃ D, D = bs [dgt x] := ⟨_, rfl⟩
      have hDz : D.size = 1 := by rw [hD, bs_size]; rfl
      have HTD : Hid (T ++ D = bs (TK (k + 1))) := by show _ = _; rw [hT, hD, HNX.out, bs_app]
      rw [← hD] at HDE
      rw [← hT]
      have hsz : ¬ 9223372036854775807 < T.size + D.size := by omega
      clear hT hD hDz
      go_wp2_with (go_at_call 45; refine (HDE.out _).mono ?_; rintro e w2 ⟨rfl, hw2⟩; have hw2' := hw2.symm; clear hw2; subst hw2')
      go_round
      case rel => exact ⟨k + 1, by omega, by go_num, by rw [HTD.out]⟩
      case measure => simp [intOf]; omega
    · have hlz : ¬ (k : Int) < (n : Int) := by omega
      have hT : TK k = l.map dgt := by
        rw [HTK.out]
        show (l.take k).map dgt = _
        rw [List.take_of_length_le (by have := HN.out; omega)]
      obtain ⟨T, hTT⟩ : ∃ T, T = bs (TK k) := ⟨_, rfl⟩
      rw [← hTT]
      by_cases h0 : l = []
      · have hz : (T.toList == []) = true := Ss1.eql_true (by rw [hTT, hT, h0]; rfl)
        have HR : Hid (⟨#[45]⟩ = bs (vt l)) := by show _ = _; rw [h0]; rfl
        clear h0 hT hTT
        go_wp2
        go_ret
        exact ⟨ret_str HR.out, rfl⟩
      · have hz : (T.toList == []) = false := Ss1.eql_false (by rw [hTT, tl_bs, hT]; simpa using h0)
        have HR : Hid (T = bs (vt l)) := by show _ = _; rw [hTT, hT]; unfold vt; rw [if_neg h0]
        clear h0 hT hTT
        go_wp2
        go_ret
        exact ⟨ret_str HR.out, rfl⟩
set_option maxRecDepth 100000 in
set_option maxHeartbeats 2000000 in
theorem sPlain (S : ByteArray) (w : World) (hS : S.size ≤ 1048576) :
    Calls Tryz.prog 48 #[.string S] w fun e w' => e = .returned (.bool (plB (tl S))) ∧ w' = w := by
  have HLEN : Hid ((tl S).length = S.size) := tl_length S
  go_enter Tryz.func48, Tryz.ntmps48
  go_wp2
  go_loop [3] (fun i => ∃ k : Nat, k ≤ S.size ∧ i = .int .i64 k ∧ ∀ c ∈ (tl S).take k, isDig c = true ∨ c = 58) (fun i => S.size - (intOf i).toNat)
  case atStart => exact ⟨0, Nat.zero_le _, rfl, fun c hc => by simp at hc⟩
  case round =>
    obtain ⟨k, hk, rfl, hg⟩ := hrel
    have HG : Hid (∀ c ∈ (tl S).take k, isDig c = true ∨ c = 58) := hg
    clear hg
    by_cases hlt : k < S.size
    · have hlz : (k : Int) < (S.size : Int) := by omega
      have HX : Hid ((tl S).take (k + 1) = (tl S).take k ++ [S[k]]) := tl_take S k hlt
      have HM : Hid (S[k] ∈ tl S) := by
        show _ ∈ _
        rw [tl_get S k hlt]; exact List.getElem_mem _
      have hb1 : (S[k].toNat : Int) < 256 := by have := S[k].toNat_lt; omega
      have hw1 : wrap64 (S[k].toNat : Int) = (S[k].toNat : Int) := by unfold wrap64; omega
      have hw2 : IntKind.i64.wrap (S[k].toNat : Int) = (S[k].toNat : Int) := by rw [IntKind.wrap_i64]; omega
      by_cases h8 : S[k] = 58
      · have b8 : ((S[k].toNat : Int) != 58) = false := by rw [h8]; rfl
        have H8 : Hid (isDig S[k] = true ∨ S[k] = 58) := .inr h8
        clear h8
        go_wp2
        go_round
        case rel => exact ⟨k + 1, by omega, by go_num, fun c hc => by
          rw [HX.out] at hc
          rcases List.mem_append.1 hc with h | h
          · exact HG.out c h
          · rw [List.mem_singleton.1 h]; exact H8.out⟩
        case measure => simp [intOf]; omega
      · have b8 : ((S[k].toNat : Int) != 58) = true := bne_iff_ne.2 fun e => h8 (UInt8.toNat_inj.1 (by have : (58 : UInt8).toNat = 58 := rfl; omega))
        cases hd : isDig S[k]
        · have hin : ¬ ((48 : Int) ≤ (S[k].toNat : Int) ∧ (S[k].toNat : Int) ≤ 57) := fun e => by
            have : isDig S[k] = true := decide_eq_true (by omega)
            rw [hd] at this; cases this
          have HF : Hid (plB (tl S) = false) := pl_no HM.out hd h8
          clear h8 hd
          go_wp2_with (go_at_call 39; refine (sInF _ hin).mono ?_; rintro e w2 ⟨rfl, hw2⟩; have hw2' := hw2.symm; clear hw2; subst hw2')
          go_ret
          exact ⟨ret_bool HF.out.symm, rfl⟩
        · have hin : (48 : Int) ≤ (S[k].toNat : Int) ∧ (S[k].toNat : Int) ≤ 57 := by have := of_decide_eq_true hd; omega
          have H8 : Hid (isDig S[k] = true ∨ S[k] = 58) := .inl hd
          clear h8 hd
          go_wp2_with (go_at_call 39; refine (sInT _ hin).mono ?_; rintro e w2 ⟨rfl, hw2⟩; have hw2' := hw2.symm; clear hw2; subst hw2')
          go_round
          case rel => exact ⟨k + 1, by omega, by go_num, fun c hc => by
            rw [HX.out] at hc
            rcases List.mem_append.1 hc with h | h
            · exact HG.out c h
            · rw [List.mem_singleton.1 h]; exact H8.out⟩
          case measure => simp [intOf]; omega
    · have hlz : ¬ (k : Int) < (S.size : Int) := by omega
      have HE : Hid (plB (tl S) = decide (tl S ≠ [])) := by
        have hg := HG.out
        rw [List.take_of_length_le (by have := HLEN.out; omega)] at hg
        exact pl_end hg
      by_cases h0 : 0 < S.size
      · have hz : (0 : Int) < (S.size : Int) := by omega
        have HF : Hid (plB (tl S) = true) := by
          show _ = _
          rw [HE.out]
          refine decide_eq_true (fun e => ?_)
          have := HLEN.out
          rw [e] at this
          simp at this
          omega
        go_wp2
        go_ret
        exact ⟨ret_bool HF.out.symm, rfl⟩
      · have hz : ¬ (0 : Int) < (S.size : Int) := by omega
        have HF : Hid (plB (tl S) = false) := by
          show _ = _
          rw [HE.out]
          refine decide_eq_false (fun e => e (List.eq_nil_of_length_eq_zero ?_))
          have := HLEN.out
          omega
        go_wp2
        go_ret
        exact ⟨ret_bool HF.out.symm, rfl⟩
end Go.Proofs.YtmpbedfiamlbpaaGreatDoor.Zm0
