/- Small texts of mine, one behind the other. -/
import Derived.Deep.RegionWith
import Derived.Test.YtiojfommmmggoaaRows
import Derived.WalkKit
import Derived.Deep.QuietTactic
import Derived.BigQuiet
import Derived.Test.YtiojfommmmggoaaSv3
import Derived.Test.YtiojfommmmggoaaPkDE24
import Derived.Test.YtiojfommmmggoaaPkDE21
import Derived.Test.YtiojfommmmggoaaPkDE22
import Derived.Test.YtiojfommmmggoaaPkDE10
import Derived.Test.YtiojfommmmggoaaPkDE0
/- The walk of the model's l04At, out of l04One; the two by induction on the place. -/
namespace Go.Proofs.Ytiojfommmmggoaa.Sv4
open Go.RowKit
open Nd0 Pl1 Tm0 Tm1 Tm5 Tm6 Tm8 Ap0 Tr0 Rw0 Vl1 Vl2 Vm0 Kp1 Sv3
open Wd1 (ret_int)
set_option linter.unusedVariables false

def vsTo (l : List Nd) (e : List Int) (k : Nat) : List Int := (List.range k).map fun j => vT (tr l j) e
theorem vsTo_length (l : List Nd) (e : List Int) (k : Nat) : (vsTo l e k).length = k := by simp [vsTo]
theorem vsTo_succ (l : List Nd) (e : List Int) (k : Nat) : vsTo l e (k + 1) = vsTo l e k ++ [vT (tr l k) e] := by simp [vsTo, List.range_succ]
theorem vsTo_wd (l : List Nd) (e : List Int) {j k : Nat} (h : j < k) : wd (vsTo l e k) (j : Int) = vT (tr l j) e := by
  rw [← wd_get (by rw [vsTo_length]; exact h)]; simp [vsTo]

set_option maxRecDepth 100000 in
set_option maxHeartbeats 8000000 in
theorem at_of {l : List Nd} {i : Nat} (hi : i < l.length) (h80 : l.length ≤ 80) (ih : ∀ k, k ≤ i → SOne l k) : SAt l i := by
  intro w a c g ce e hN0 hag he hE
  have HN0 : Hid (Nodes w a l) := hN0
  have HAG : Hid (∀ x, a = some x → ¬ x.block = g) := hag
  have HE : Hid (Env w g e) := hE
  have IH : Hid (∀ k, k ≤ i → SOne l k) := ih
  have hg := hE.lt
  clear hN0 hag hE ih
  go_enter Try.func27, Try.ntmps27
  go_wp2_with fail
  go_loopw [7, 8] (fun v q wr => ∃ k : Nat, k ≤ i + 1 ∧ q = .int .i64 (k : Int) ∧ Ows wr w.heap.size v (vsTo l e k) ∧ Env wr g e ∧ Kept (fun b => b = g) w wr) (fun _ q _ => i + 1 - (intOf q).toNat)
  case atStart => exact ⟨0, Nat.zero_le _, rfl, Ows.lit w _ (Nat.le_refl _), HE.out.kept (S := fun _ => False) ((Kept.refl _ _).alloc _) (fun h => h), (Kept.refl _ _).alloc _⟩
  case round =>
    obtain ⟨k, hk, rfl, ho, hE2, hK2⟩ := hrel
    have HE2 : Hid (Env wr g e) := hE2
    have HK2 : Hid (Kept (fun b => b = g) w wr) := hK2
    have hBs : w.heap.size ≤ wr.heap.size := hK2.size
    have HLN : Hid ((vsTo l e k).length = k) := vsTo_length l e k
    clear hE2 hK2
    by_cases hlt : k ≤ i
    · have hkz : (k : Int) ≤ (i : Int) := by omega
      obtain ⟨av, cv, rfl, hwi⟩ := ho.form
      have HO : Hid (Ows wr w.heap.size (.slice av (vsTo l e k).length cv) (vsTo l e k)) := ho
      have HI : Hid (Ints wr av (vsTo l e k)) := hwi.ints
      rw [HLN.out] at HO ⊢
      clear ho hwi
      have HSU : Hid (vsTo l e (k + 1) = vsTo l e k ++ [vT (tr l k) e]) := vsTo_succ l e k
      have HON := IH.out k hlt
      have HONH : Hid (SOne l k) := HON
      clear HON
      go_wp2_with fail
      refine (HONH.out _ _ _ c g ce cv e (vsTo l e k) (HN0.out.kept HK2.out HAG.out) HAG.out he HE2.out HI.out HLN.out (fun j hj => vsTo_wd l e hj)).mono ?_
      rintro x0 w2 ⟨rfl, hE3, hK3⟩
      have HE3 : Hid (Env w2 g e) := hE3
      have HK3 : Hid (Kept (fun b => b = g) w w2) := HK2.out.trans hK3
      have HO3 : Hid (Ows w2 w.heap.size (.slice av k cv) (vsTo l e k)) := HO.out.kept hK3 (fun b hb (e : b = g) => by have := (HO.out.lt b hb).1; omega)
      have hB3 : w.heap.size ≤ w2.heap.size := HK3.out.size
      clear hE3 hK3 HO HI HE2
      generalize vT (tr l k) e = x at HSU
      generalize vsTo l e k = L at HO3 HSU HLN
      have HLE : Hid (L.length ≤ 1048576) := by
        show _ ≤ _
        have := HLN.out
        omega
      go_wp2_with (at_builtin; go_must (refine app_int _ rfl _ _ rfl w.heap.size (.slice av k cv) L x rfl rfl HO3.out hB3 HLE.out ?_; intro g5 cp5 w5 ho5 hk5 hg5; have HO5 : Hid (Ows w5 w.heap.size (.slice (some ⟨g5, 0, none⟩) (L.length + 1) cp5) (L ++ [x])) := ho5; have HK5 : Hid (Kept (fun b => (Value.slice av k cv).ownBlock = some b) w2 w5) := hk5; clear ho5 hk5 hg5))
      go_roundw
      case rel =>
        refine ⟨k + 1, by omega, by go_num, by rw [HSU.out]; exact HO5.out, HE3.out.kept HK5.out (fun h => by have := (HO3.out.lt g h).1; omega), Kept.past HK3.out HK5.out (fun b h => .inr (HO3.out.lt b h).1)⟩
      case measure => simp [intOf]; omega
    · have hkz : ¬ (k : Int) ≤ (i : Int) := by omega
      have hke : k = i + 1 := by omega
      obtain ⟨g6, c6, hv6, hg6, hr6⟩ : ∃ g6 c6, u7 = .slice (some ⟨g6, 0, none⟩) (i + 1) c6 ∧ g6 < wr.heap.size ∧ wr.cell? ⟨g6, i, none⟩ = some (.int .i64 (vT (tr l i) e)) := by
        obtain ⟨g6, c6, hv, _, hlt6, hrow⟩ := Rw1.row_ints ho (by rw [HLN.out]; omega)
        rw [HLN.out, hke] at hv
        refine ⟨g6, c6, hv, hlt6, ?_⟩
        have := (hrow i (by rw [HLN.out]; omega)).1
        rw [this]
        dsimp only
        rw [vsTo_wd l e (by omega)]
      subst hv6
      clear ho
      have hiz : (i : Int) < (i : Int) + 1 := by omega
      go_wp2
      go_ret
      exact ⟨rfl, HE2.out, HK2.out⟩
theorem sAt {l : List Nd} (hT : termOk l = true) : ∀ i, i < l.length → SAt l i := by
  intro i
  induction i using Nat.strongRecOn with
  | ind i ih =>
    intro hi
    have hl := term_len hT
    have hD := down_of hT
    have hN : ∀ k, k < l.length → nodeOk l k = true := fun k hk => term_node hT hk
    refine at_of hi hl.2 (fun k hk => ?_)
    have hkl : k < l.length := by omega
    by_cases h1 : (nth l k).op = 1
    · exact one_var hD hN hkl hl.2 h1
    · cases hq : quant (nth l k).op
      · exact one_other hD hN hkl hl.2 h1 hq
      · refine one_quant hD hN hkl hl.2 hq ?_
        have hq2 : (nth l k).op = 19 ∨ (nth l k).op = 20 := by simpa [quant] using hq
        have haa := hD k hkl (nth l k).a (by rw [parts_one (by omega)]; simp)
        exact ih _ (by omega) (by omega)

end Go.Proofs.Ytiojfommmmggoaa.Sv4

/- The walk of the model's HoldsFront. -/
namespace Go.Proofs.Ytiojfommmmggoaa.Fm4
open Go.RowKit
open Nd0 Qa0 Pl1 Tm0 Tm1 Tm6 Tr0 Rw0 Rw1 Vl1 Vm0 Kp1 Fr0 Fr1 Fr4
open Fm1 (quAt sBitsQ bitsQ bitsQ_few)
open Fm2 (sFrontOk sZerosW)
open Sv4 (sAt)
open Wd1 (spow)
open Ws1 (ret_int ret_bool)
set_option linter.unusedVariables false

theorem env_set {w : World} {g : Nat} {e : List Int} (h : Env w g e) (he : e.length = 8) {v : Nat} (hv : v < 8) (x : Int) : Env (w.setCell ⟨g, v, none⟩ (.int .i64 x)) g (e.set v x) := row_set_int h he hv x

end Go.Proofs.Ytiojfommmmggoaa.Fm4

/- The walks of the model's readers of numbers and words. -/
namespace Go.Proofs.Ytiojfommmmggoaa.Ss1
open Go.RowKit
open Nd0 Tx0 Ss0
open Ws1 (sIn ret_int)
set_option linter.unusedVariables false

def tl (S : ByteArray) : List UInt8 := S.data.toList
theorem tl_bs (l : List UInt8) : tl (bs l) = l := by simp [tl, bs]
theorem tl_length (S : ByteArray) : (tl S).length = S.size := by unfold tl ByteArray.size; exact Array.length_toList
theorem tl_get (S : ByteArray) (k : Nat) (h : k < S.size) : S[k] = (tl S)[k]'(by rw [tl_length]; exact h) := rfl
theorem tl_take (S : ByteArray) (k : Nat) (h : k < S.size) : (tl S).take (k + 1) = (tl S).take k ++ [S[k]] := by
  rw [List.take_succ_eq_append_getElem (by rw [tl_length]; exact h)]; rfl

end Go.Proofs.Ytiojfommmmggoaa.Ss1

/- TableOk of both sides; small functions of the laws over tables. -/
namespace Go.Proofs.Ytiojfommmmggoaa.Tc2
open Go.RowKit
open Ta0 Ta1
open Ss0 (bs bs_size)
open Ss1 (tl tl_length tl_get tl_take tl_bs)
set_option linter.unusedVariables false

theorem ret_int {k : IntKind} {a b : Int} (h : a = b) : Ending.returned (.int k a) = .returned (.int k b) := by rw [h]
theorem ret_bool {a b : Bool} (h : a = b) : Ending.returned (.bool a) = .returned (.bool b) := by rw [h]
theorem wsh {n : Nat} (h : n ≤ 12) : IntKind.i64.wrap ((2 : Int) ^ n) = ((2 ^ n : Nat) : Int) := by
  have := p12 h
  rw [pcast, IntKind.wrap_i64] <;> omega
theorem below_drewN {B : Nat} {u w : World} (h : Below B u w) (n : Nat) : Below B u (w.drewN n) := ⟨h.os, h.tape, h.output, h.size, h.block⟩

set_option maxHeartbeats 400000 in
theorem sPow (n : Nat) (w : World) (h1 : n ≤ 12) :
    Calls Try.prog 26 #[.int .i64 (n : Int)] w fun e w' => e = .returned (.int .i64 ((2 ^ n : Nat) : Int)) ∧ w' = w := by
  go_enter Try.func26, Try.ntmps26
  go_wp2
  go_loop [3, 4] (fun x i => ∃ k : Nat, k ≤ n ∧ i = .int .i64 k ∧ x = .int .i64 ((2 ^ k : Nat) : Int)) (fun _ i => n - (intOf i).toNat)
  case atStart => exact ⟨0, Nat.zero_le _, rfl, rfl⟩
  case round =>
    obtain ⟨k, hk, rfl, rfl⟩ := hrel
    obtain ⟨hp, hl⟩ := p12 (n := k) (by omega)
    have HS : Hid (2 ^ (k + 1) = 2 * 2 ^ k) := by show _ = _; rw [Nat.pow_succ]; omega
    generalize hP : 2 ^ k = P at hp hl HS ⊢
    by_cases hlt : k < n
    · clear hP
      go_wp2
      go_round
      case rel => exact ⟨k + 1, by omega, by go_num, by rw [HS.out]; go_num⟩
      case measure => simp [intOf]; omega
    · have HP : Hid (2 ^ k = P) := hP
      clear hP
      go_wp2
      go_ret
      have : k = n := by omega
      subst this
      exact ⟨ret_int (by rw [pcast, HP.out]), rfl⟩

set_option maxHeartbeats 400000 in
theorem sIn (x a b : Int) (w : World) :
    Calls Try.prog 46 #[.int .i64 x, .int .i64 a, .int .i64 b] w fun e w' => e = .returned (.bool (decide (a ≤ x ∧ x ≤ b))) ∧ w' = w := by
  by_cases h1 : a ≤ x <;> by_cases h2 : x ≤ b
  all_goals
    go_enter Try.func46, Try.ntmps46
    go_wp2
    go_ret
    exact ⟨ret_bool (by simp <;> omega), rfl⟩

theorem sInT {x a b : Int} (w : World) (h : a ≤ x ∧ x ≤ b) :
    Calls Try.prog 46 #[.int .i64 x, .int .i64 a, .int .i64 b] w fun e w' => e = .returned (.bool true) ∧ w' = w := by
  have := sIn x a b w
  rwa [decide_eq_true h] at this
theorem sInF {x a b : Int} (w : World) (h : ¬ (a ≤ x ∧ x ≤ b)) :
    Calls Try.prog 46 #[.int .i64 x, .int .i64 a, .int .i64 b] w fun e w' => e = .returned (.bool false) ∧ w' = w := by
  have := sIn x a b w
  rwa [decide_eq_false h] at this

abbrev tv (N : Int) (S : ByteArray) : Value := .agg #[.int .i64 N, .string S]

set_option maxHeartbeats 2000000 in
theorem sTableOk (N : Int) (S : ByteArray) (w : World) (hS : S.size ≤ 1048576) :
    Calls Try.prog 58 #[tv N S] w fun e w' => e = .returned (.bool (tokB N (tl S))) ∧ Below w.heap.size w w' := by
  have HB : Hid (∀ k, Below w.heap.size w ((w.alloc (.cells #[.int .i64 N, .string S] 30)).drewN k)) := fun k => below_drewN ((Below.refl _ _).alloc (Nat.le_refl _) _) k
  by_cases hN : 0 ≤ N ∧ N ≤ 12
  · obtain ⟨n, rfl⟩ := Int.eq_ofNat_of_zero_le hN.1
    have HI : Hid (∀ W, Calls Try.prog 46 #[.int .i64 (n : Int), .int .i64 0, .int .i64 12] W fun e w' => e = .returned (.bool true) ∧ w' = W) := fun W => sInT W hN
    have hn : n ≤ 12 := by omega
    obtain ⟨hp, hl⟩ := p12 hn
    have HC : Hid (∀ W, Calls Try.prog 26 #[.int .i64 (n : Int)] W fun e w' => e = .returned (.int .i64 ((2 ^ n : Nat) : Int)) ∧ w' = W) := fun W => sPow n W hn
    have HL : Hid (S.size ≠ 2 ^ n → tokB (n : Int) (tl S) = false) := fun h => tok_len (by rw [tl_length, Int.toNat_natCast]; exact h)
    have HT : Hid (S.size = 2 ^ n → (∀ c ∈ tl S, c = 48 ∨ c = 49) → tokB (n : Int) (tl S) = true) := fun h k => decide_eq_true ⟨hN.1, hN.2, by rw [tl_length, Int.toNat_natCast]; exact h, k⟩
    clear hN
    generalize 2 ^ n = P at hp hl HC HL HT
    by_cases hs : S.size = P
    · have hsz : ((S.size : Int) != (P : Int)) = false := by rw [hs]; simp
      have HS : Hid (S.size = P) := hs
      have hS2 : S.size ≤ 4096 := by omega
      clear hs
      go_enter Try.func58, Try.ntmps58
      go_wp2_with fail
      go_quiet ((first | (go_at_call 46; exact Calls.quiet_of_same (HI.out _)) | (go_at_call 26; exact Calls.quiet_of_same (HC.out _))))
      go_wp2
      go_loop [3] (fun i => ∃ k : Nat, k ≤ S.size ∧ i = .int .i64 k ∧ ∀ c ∈ (tl S).take k, c = 48 ∨ c = 49) (fun i => S.size - (intOf i).toNat)
      case atStart => exact ⟨0, Nat.zero_le _, rfl, fun c hc => by simp at hc⟩
      case round =>
        obtain ⟨k, hk, rfl, hc⟩ := hrel
        have HK : Hid (∀ c ∈ (tl S).take k, c = 48 ∨ c = 49) := hc
        clear hc
        by_cases hlt : k < S.size
        · have hkz : (k : Int) < (S.size : Int) := by omega
          have HX : Hid ((tl S).take (k + 1) = (tl S).take k ++ [S[k]]) := tl_take S k hlt
          have HM : Hid (S[k] ∈ tl S) := by
            show _ ∈ _
            rw [tl_get S k hlt]; exact List.getElem_mem _
          by_cases h8 : S[k] = 48
          · have b8 : ((S[k].toNat : Int) != 48) = false := by rw [h8]; rfl
            have H8 : Hid (S[k] = 48 ∨ S[k] = 49) := .inl h8
            clear h8
            go_wp2
            go_round
            case rel => exact ⟨k + 1, by omega, by go_num, fun c hc => by
              rw [HX.out] at hc
              rcases List.mem_append.1 hc with h | h
              · exact HK.out c h
              · rw [List.mem_singleton.1 h]; exact H8.out⟩
            case measure => simp [intOf]; omega
          · have b8 : ((S[k].toNat : Int) != 48) = true := bne_iff_ne.2 fun e => h8 (UInt8.toNat_inj.1 (by have : (48 : UInt8).toNat = 48 := rfl; omega))
            by_cases h9 : S[k] = 49
            · have b9 : ((S[k].toNat : Int) != 49) = false := by rw [h9]; rfl
              have H8 : Hid (S[k] = 48 ∨ S[k] = 49) := .inr h9
              clear h8 h9
              go_wp2
              go_round
              case rel => exact ⟨k + 1, by omega, by go_num, fun c hc => by
                rw [HX.out] at hc
                rcases List.mem_append.1 hc with h | h
                · exact HK.out c h
                · rw [List.mem_singleton.1 h]; exact H8.out⟩
              case measure => simp [intOf]; omega
            · have b9 : ((S[k].toNat : Int) != 49) = true := bne_iff_ne.2 fun e => h9 (UInt8.toNat_inj.1 (by have : (49 : UInt8).toNat = 49 := rfl; omega))
              have HF : Hid (tokB (n : Int) (tl S) = false) := tok_sign HM.out ⟨h8, h9⟩
              clear h8 h9
              go_wp2
              go_ret
              exact ⟨ret_bool HF.out.symm, HB.out _⟩
        · have HF : Hid (tokB (n : Int) (tl S) = true) := HT.out HS.out (by
            have := HK.out
            rwa [List.take_of_length_le (by rw [tl_length]; omega)] at this)
          go_wp2
          go_ret
          exact ⟨ret_bool HF.out.symm, HB.out _⟩
    · have hsz : ((S.size : Int) != (P : Int)) = true := bne_iff_ne.2 (by omega)
      have HF : Hid (tokB (n : Int) (tl S) = false) := HL.out hs
      clear hs
      go_enter Try.func58, Try.ntmps58
      go_wp2_with fail
      go_quiet ((first | (go_at_call 46; exact Calls.quiet_of_same (HI.out _)) | (go_at_call 26; exact Calls.quiet_of_same (HC.out _))))
      go_wp2
      go_ret
      exact ⟨ret_bool HF.out.symm, HB.out _⟩
  · have HI : Hid (∀ W, Calls Try.prog 46 #[.int .i64 N, .int .i64 0, .int .i64 12] W fun e w' => e = .returned (.bool false) ∧ w' = W) := fun W => sInF W hN
    have HF : Hid (tokB N (tl S) = false) := tok_no hN
    clear hN
    go_enter Try.func58, Try.ntmps58
    go_wp2_with fail
    go_quiet ((go_at_call 46; exact Calls.quiet_of_same (HI.out _)))
    go_wp2
    go_ret
    exact ⟨ret_bool HF.out.symm, HB.out _⟩

set_option maxHeartbeats 2000000 in
theorem iTableOk (N : Int) (S : ByteArray) (w : World) (hS : S.size ≤ 1048576) :
    Calls Try.prog 34 #[tv N S] w fun e w' => e = .returned (.bool (tokB N (tl S))) ∧ Below w.heap.size w w' := by
  have HB : Hid (∀ k, Below w.heap.size w ((w.alloc (.cells #[.int .i64 N, .string S] 30)).drewN k)) := fun k => below_drewN ((Below.refl _ _).alloc (Nat.le_refl _) _) k
  by_cases h0 : N < 0
  · have HF : Hid (tokB N (tl S) = false) := tok_no (by omega)
    go_enter Try.func34, Try.ntmps34
    go_wp2_with fail
    go_quiet (fail)
    go_wp2
    go_ret
    exact ⟨ret_bool HF.out.symm, HB.out _⟩
  by_cases h1 : 12 < N
  · have HF : Hid (tokB N (tl S) = false) := tok_no (by omega)
    go_enter Try.func34, Try.ntmps34
    go_wp2_with fail
    go_quiet (fail)
    go_wp2
    go_ret
    exact ⟨ret_bool HF.out.symm, HB.out _⟩
  obtain ⟨n, rfl⟩ := Int.eq_ofNat_of_zero_le (by omega : 0 ≤ N)
  have hn : n ≤ 12 := by omega
  obtain ⟨hp, hl⟩ := p12 hn
  have HL : Hid (S.size ≠ 2 ^ n → tokB (n : Int) (tl S) = false) := fun h => tok_len (by rw [tl_length, Int.toNat_natCast]; exact h)
  have HT : Hid (S.size = 2 ^ n → (∀ c ∈ tl S, c = 48 ∨ c = 49) → tokB (n : Int) (tl S) = true) := fun h k => decide_eq_true ⟨by omega, by omega, by rw [tl_length, Int.toNat_natCast]; exact h, k⟩
  have hw := wsh hn
  have hd0 : decide ((n : Int) < 0) = false := decide_eq_false (by omega)
  have hd1 : decide (12 < (n : Int)) = false := decide_eq_false (by omega)
  generalize 2 ^ n = P at hp hl HL HT hw
  by_cases hs : S.size = P
  · have hsz : ((S.size : Int) != (P : Int)) = false := by rw [hs]; simp
    have HS : Hid (S.size = P) := hs
    have hS2 : S.size ≤ 4096 := by omega
    clear hs
    go_enter Try.func34, Try.ntmps34
    go_wp2_with fail
    go_quiet (fail)
    go_wp2
    go_loop [24] (fun i => ∃ k : Nat, k ≤ S.size ∧ i = .int .i64 k ∧ ∀ c ∈ (tl S).take k, c = 48 ∨ c = 49) (fun i => S.size - (intOf i).toNat)
    case atStart => exact ⟨0, Nat.zero_le _, rfl, fun c hc => by simp at hc⟩
    case round =>
      obtain ⟨k, hk, rfl, hc⟩ := hrel
      have HK : Hid (∀ c ∈ (tl S).take k, c = 48 ∨ c = 49) := hc
      clear hc
      by_cases hlt : k < S.size
      · have hkz : (k : Int) < (S.size : Int) := by omega
        have HX : Hid ((tl S).take (k + 1) = (tl S).take k ++ [S[k]]) := tl_take S k hlt
        have HM : Hid (S[k] ∈ tl S) := by
          show _ ∈ _
          rw [tl_get S k hlt]; exact List.getElem_mem _
        by_cases h8 : S[k] = 48
        · have b8 : ((S[k].toNat : Int) != 48) = false := by rw [h8]; rfl
          have H8 : Hid (S[k] = 48 ∨ S[k] = 49) := .inl h8
          clear h8
          go_wp2
          go_round
          case rel => exact ⟨k + 1, by omega, by go_num, fun c hc => by
            rw [HX.out] at hc
            rcases List.mem_append.1 hc with h | h
            · exact HK.out c h
            · rw [List.mem_singleton.1 h]; exact H8.out⟩
          case measure => simp [intOf]; omega
        · have b8 : ((S[k].toNat : Int) != 48) = true := bne_iff_ne.2 fun e => h8 (UInt8.toNat_inj.1 (by have : (48 : UInt8).toNat = 48 := rfl; omega))
          by_cases h9 : S[k] = 49
          · have b9 : ((S[k].toNat : Int) != 49) = false := by rw [h9]; rfl
            have H8 : Hid (S[k] = 48 ∨ S[k] = 49) := .inr h9
            clear h8 h9
            go_wp2
            go_round
            case rel => exact ⟨k + 1, by omega, by go_num, fun c hc => by
              rw [HX.out] at hc
              rcases List.mem_append.1 hc with h | h
              · exact HK.out c h
              · rw [List.mem_singleton.1 h]; exact H8.out⟩
            case measure => simp [intOf]; omega
          · have b9 : ((S[k].toNat : Int) != 49) = true := bne_iff_ne.2 fun e => h9 (UInt8.toNat_inj.1 (by have : (49 : UInt8).toNat = 49 := rfl; omega))
            have HF : Hid (tokB (n : Int) (tl S) = false) := tok_sign HM.out ⟨h8, h9⟩
            clear h8 h9
            go_wp2
            go_ret
            exact ⟨ret_bool HF.out.symm, HB.out _⟩
      · have HF : Hid (tokB (n : Int) (tl S) = true) := HT.out HS.out (by
          have := HK.out
          rwa [List.take_of_length_le (by rw [tl_length]; omega)] at this)
        go_wp2
        go_ret
        exact ⟨ret_bool HF.out.symm, HB.out _⟩
  · have hsz : ((S.size : Int) != (P : Int)) = true := bne_iff_ne.2 (by omega)
    have HF : Hid (tokB (n : Int) (tl S) = false) := HL.out hs
    clear hs
    go_enter Try.func34, Try.ntmps34
    go_wp2_with fail
    go_quiet (fail)
    go_wp2
    go_ret
    exact ⟨ret_bool HF.out.symm, HB.out _⟩

end Go.Proofs.Ytiojfommmmggoaa.Tc2

/- Small functions of the laws over tables; the exact law of TableOk. -/
namespace Go.Proofs.Ytiojfommmmggoaa.Tc3
open Go.RowKit
open Ta0 Ta1 Tc2
open Ss0 (bs bs_size)
open Ss1 (tl tl_length tl_get tl_take tl_bs)
set_option linter.unusedVariables false

end Go.Proofs.Ytiojfommmmggoaa.Tc3
