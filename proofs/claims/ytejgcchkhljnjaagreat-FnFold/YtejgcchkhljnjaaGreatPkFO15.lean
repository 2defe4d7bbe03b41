/- Small texts of mine, one behind the other. -/
import Derived.Test.YtejgcchkhljnjaaGreatRows
import Derived.WalkKit
import Derived.WalkSpells
import Derived.WalkLawsBesides
import Derived.Test.YtejgcchkhljnjaaGreatPkFO14
import Derived.Test.YtejgcchkhljnjaaGreatPkFO12
import Derived.Test.YtejgcchkhljnjaaGreatPkFO1
import Derived.Test.YtejgcchkhljnjaaGreatPkFO8
/- The draws of chapters 2 and 4: a list of nodes, one with free variables, values for them. -/
namespace Go.Proofs.YtejgcchkhljnjaaGreat.Dw8
open Go.RowKit
open Nd0 Nd3 Ap0 Ap2 Tm5 Dw0 Dw4 Dw5 Dw6 Dw7
open Dr0 (Cur Only Bytes Off)
open Dr1 (once below)
open Sp10 (sQuant)
set_option linter.unusedVariables false

theorem nodes_take {w : World} {g : Nat} {L : List Nd} (h : Nodes w (some ⟨g, 0, none⟩) L) {m : Nat} (hm : m ≤ L.length) : Nodes w (some ⟨g, 0, none⟩) (L.take m) := by
  refine ⟨by rw [List.length_take]; have := h.1; omega, ?_⟩
  by_cases h0 : m = 0
  · exact .inl (by subst h0; simp)
  · rcases h.2 with e | ⟨b, o, he, hc⟩
    · omega
    · refine .inr ⟨b, o, he, fun i hi => ?_⟩
      have hi' : i < L.length := by rw [List.length_take] at hi; omega
      rw [List.getElem_take]; exact hc i hi'

set_option maxHeartbeats 4000000 in
theorem openNodes (w : World) (b : Nat) (a : Option Addr) (len cap : Nat) (hc : Cur w b a len cap) (hlo : Low a len b) :
    Calls Tryz.prog 71 #[.pointer (some ⟨b, 0, none⟩)] w (APost b a len cap w) := by
  have HC0 : Hid (Cur w b a len cap) := hc
  have HLO : Hid (Low a len b) := hlo
  clear hc hlo
  go_enter Tryz.func71, Tryz.ntmps71
  go_wp2_with fail
  refine (anyNodes _ b a len cap HC0.out HLO.out).mono ?_
  rintro e w1 ⟨g, c, L, rfl, hn, hbg, hgs, hcu, hk, h1, h2, h3⟩
  have HN1 : Hid (Nodes w1 (some ⟨g, 0, none⟩) L) := hn
  have HC1 : Hid (Cur w1 b a len cap) := hcu
  have HK1 : Hid (Kept (fun k => k = b) w w1) := hk
  have HBG : Hid (b < g) := hbg
  have HCL : Hid (L.length ≤ c) := h3
  have HL2 : Hid (1 ≤ L.length ∧ L.length ≤ 81) := ⟨h1, h2⟩
  have HGS : Hid (g < w1.heap.size) := hgs
  clear hn hcu hk hbg h1 h2 h3 hgs HC0
  go_wp2_with fail
  go_loopw [3, 4] (fun v q wr => ∃ (k : Nat) (M : List Nd), k ≤ 3 ∧ q = .int .i64 k ∧ v = .slice (some ⟨g, 0, none⟩) M.length c ∧ Nodes wr (some ⟨g, 0, none⟩) M ∧ 1 ≤ M.length ∧ M.length ≤ 81 ∧ M.length ≤ c ∧ Cur wr b a len cap ∧ Kept (fun k => k = b) w wr ∧ g < wr.heap.size) (fun _ q _ => 3 - (intOf q).toNat)
  case atStart => exact ⟨0, L, by omega, rfl, rfl, HN1.out, HL2.out.1, HL2.out.2, HCL.out, HC1.out, HK1.out, HGS.out⟩
  case round =>
    clear HN1 HC1 HK1 HL2 HGS HCL
    obtain ⟨k, M, hk, rfl, rfl, hn, h1, h2, h3, hcu, hkk, hgs⟩ := hrel
    have HN : Hid (Nodes wr (some ⟨g, 0, none⟩) M) := hn
    have HC : Hid (Cur wr b a len cap) := hcu
    have HK : Hid (Kept (fun k => k = b) w wr) := hkk
    have HGS : Hid (g < wr.heap.size) := hgs
    clear hn hcu hkk hgs
    by_cases hk3 : k < 3
    · have hkz : (k : Int) < 3 := by omega
      by_cases hm1 : 1 < M.length
      · have hmz : (1 : Int) < (M.length : Int) := by omega
        rcases HN.out.2 with h0 | ⟨b', o', he, hcn⟩
        · omega
        cases he
        have p0 := (hcn (M.length - 1) (by omega)).c0
        rw [Nat.zero_add] at p0
        clear hcn
        have g1 : (0 : Int) ≤ (M.length : Int) - 1 := by omega
        have g2 : (M.length : Int) - 1 < (M.length : Int) := by omega
        generalize M[M.length - 1].op = op at p0
        cases hq : quant op
        · go_wp2_with (go_at_call 51; refine (sQuant _ _).mono ?_; rintro e w' ⟨rfl, rfl⟩; rw [hq])
          go_ret
          exact ⟨g, c, M, rfl, HN.out, HBG.out, HGS.out, HC.out, HK.out, h1, h2, h3⟩
        · go_wp2_with (go_at_call 51; refine (sQuant _ _).mono ?_; rintro e w' ⟨rfl, rfl⟩; rw [hq])
          refine (once _ b a len cap 3 (by omega) (by omega) HC.out).mono ?_
          rintro e w2 ⟨⟨x2, rfl⟩, hc', ho'⟩
          have HC2 : Hid (Cur w2 b a len cap) := hc'
          have HK2 : Hid (Kept (fun k => k = b) w w2) := HK.out.trans (only_kept ho')
          have HN2 : Hid (Nodes w2 (some ⟨g, 0, none⟩) M) := HN.out.kept (only_kept ho') (fun x hx => by cases hx; have := HBG.out; show ¬ g = b; omega)
          have HGS2 : Hid (g < w2.heap.size) := Nat.lt_of_lt_of_le HGS.out ho'.size
          clear hc' ho' p0
          cases x2
          · have hcz : (M.length : Int) - 1 ≤ (c : Int) := by omega
            go_wp2
            go_roundw
            case rel =>
              have e9 : (M.take (M.length - 1)).length = M.length - 1 := by rw [List.length_take]; omega
              exact ⟨k + 1, M.take (M.length - 1), by omega, by go_num, by rw [e9], nodes_take HN2.out (by omega), by rw [e9]; omega, by rw [e9]; omega, by rw [e9]; omega, HC2.out, HK2.out, HGS2.out⟩
            case measure => simp [intOf]; omega
          · go_wp2
            go_ret
            exact ⟨g, c, M, rfl, HN2.out, HBG.out, HGS2.out, HC2.out, HK2.out, h1, h2, h3⟩
      · have hmz : ¬ (1 : Int) < (M.length : Int) := by omega
        go_wp2
        go_ret
        exact ⟨g, c, M, rfl, HN.out, HBG.out, HGS.out, HC.out, HK.out, h1, h2, h3⟩
    · have hkz : ¬ (k : Int) < 3 := by omega
      go_wp2
      go_ret
      exact ⟨g, c, M, rfl, HN.out, HBG.out, HGS.out, HC.out, HK.out, h1, h2, h3⟩

theorem low_of {w : World} {a : Option Addr} {len : Nat} (h : Bytes w a len) : Low a len w.heap.size := by
  rcases h.2 with h0 | ⟨xb, xo, rfl, hc⟩
  · exact .inl h0
  · by_cases hl : len = 0
    · exact .inl hl
    · refine .inr fun x hx => ?_
      cases hx
      obtain ⟨v, _, _, hv⟩ := hc 0 (by omega)
      exact lt_of_cell (p := ⟨xb, xo + 0, none⟩) hv

end Go.Proofs.YtejgcchkhljnjaaGreat.Dw8

/- Walks of chapter 1: the small functions on words, in the program and in its model. -/
namespace Go.Proofs.YtejgcchkhljnjaaGreat.Wd1
open Go.RowKit
open Pl1
set_option linter.unusedVariables false

theorem ret_int {k : IntKind} {a b : Int} (h : a = b) : Ending.returned (.int k a) = .returned (.int k b) := by rw [h]
theorem ret_bool {a b : Bool} (h : a = b) : Ending.returned (.bool a) = .returned (.bool b) := by rw [h]

set_option maxHeartbeats 400000 in
theorem spow (m : Int) (w : World) (h0 : 0 ≤ m) (h1 : m ≤ 8) :
    Calls Tryz.prog 111 #[.int .i64 m] w fun e w' => e = .returned (.int .i64 (p2 m.toNat)) ∧ w' = w := by
  obtain ⟨n, rfl⟩ := Int.eq_ofNat_of_zero_le h0
  rw [Int.toNat_natCast]
  go_enter Tryz.func111, Tryz.ntmps111
  go_wp2
  go_loop [3, 4] (fun x i => ∃ k : Nat, k ≤ n ∧ i = .int .i64 k ∧ x = .int .i64 (p2 k)) (fun _ i => n - (intOf i).toNat)
  case atStart => exact ⟨0, Nat.zero_le _, rfl, rfl⟩
  case round =>
    obtain ⟨k, hk, rfl, rfl⟩ := hrel
    have hp := p2_pos k
    have hl := p2_le k (by omega)
    by_cases hlt : k < n
    · go_wp2
      go_round
      case rel => exact ⟨k + 1, by omega, by go_num, by rw [p2_succ]⟩
      case measure => simp [intOf]; omega
    · go_wp2
      go_ret
      have : k = n := by omega
      subst this
      exact ⟨rfl, rfl⟩

set_option maxHeartbeats 400000 in
theorem mask (m : Int) (w : World) (h0 : 1 ≤ m) (h1 : m ≤ 8) :
    Calls Tryz.prog 214 #[.int .i64 m] w fun e w' => e = .returned (.int .u8 (p2 m.toNat - 1)) ∧ w' = w := by
  rcases eight h0 h1 with rfl | rfl | rfl | rfl | rfl | rfl | rfl | rfl
  all_goals
    go_enter Tryz.func214, Tryz.ntmps214
    go_wp2
    go_ret
    exact ⟨rfl, rfl⟩

set_option maxHeartbeats 400000 in
theorem cut (a m : Int) (w : World) (ha : 0 ≤ a) (hb : a ≤ 255) (h0 : 1 ≤ m) (h1 : m ≤ 8) :
    Calls Tryz.prog 209 #[.int .u8 a, .int .i64 m] w fun e w' => e = .returned (.int .u8 (a % p2 m.toNat)) ∧ w' = w := by
  have hm := and_mask a m.toNat ha hb (by omega)
  go_enter Tryz.func209, Tryz.ntmps209
  go_wp2_with (go_at_call 214; refine (mask m _ h0 h1).mono ?_; rintro e w' ⟨rfl, rfl⟩)
  go_ret
  exact ⟨rfl, rfl⟩

set_option maxHeartbeats 400000 in
theorem sIn (x a b : Int) (w : World) :
    Calls Tryz.prog 64 #[.int .i64 x, .int .i64 a, .int .i64 b] w fun e w' => e = .returned (.bool (decide (a ≤ x ∧ x ≤ b))) ∧ w' = w := by
  by_cases h1 : a ≤ x <;> by_cases h2 : x ≤ b
  all_goals
    go_enter Tryz.func64, Tryz.ntmps64
    go_wp2
    go_ret
    exact ⟨ret_bool (by simp <;> omega), rfl⟩

set_option maxHeartbeats 400000 in
theorem sWordOk (m a : Int) (w : World) :
    Calls Tryz.prog 139 #[.int .i64 m, .int .i64 a] w fun e w' => e = .returned (.bool (wok m a)) ∧ w' = w := by
  by_cases h : 1 ≤ m ∧ m ≤ 8
  · have hp := p2_pos m.toNat
    have hl := p2_le m.toNat (by omega)
    have hd : decide (1 ≤ m ∧ m ≤ 8) = true := by simpa using h
    go_enter Tryz.func139, Tryz.ntmps139
    go_wp2_with (first | (go_at_call 64; refine (sIn _ _ _ _).mono ?_; rintro e w' ⟨rfl, rfl⟩) | (go_at_call 111; refine (spow m _ (by omega) (by omega)).mono ?_; rintro e w' ⟨rfl, rfl⟩))
    go_ret
    exact ⟨ret_bool (by rw [Bool.eq_iff_iff]; simp [wok]; omega), rfl⟩
  · have hd : decide (1 ≤ m ∧ m ≤ 8) = false := by simpa using h
    go_enter Tryz.func139, Tryz.ntmps139
    go_wp2_with (go_at_call 64; refine (sIn _ _ _ _).mono ?_; rintro e w' ⟨rfl, rfl⟩)
    go_ret
    exact ⟨ret_bool (by unfold wok; symm; rw [decide_eq_false_iff_not]; omega), rfl⟩

set_option maxHeartbeats 400000 in
theorem sTwo (m a b : Int) (w : World) :
    Calls Tryz.prog 147 #[.int .i64 m, .int .i64 a, .int .i64 b] w fun e w' => e = .returned (.bool (wok m a && wok m b)) ∧ w' = w := by
  cases hA : wok m a
  all_goals
    go_enter Tryz.func147, Tryz.ntmps147
    go_wp2_with (go_at_call 139; refine (sWordOk _ _ _).mono ?_; rintro e w' ⟨rfl, rfl⟩)
    go_ret
    exact ⟨ret_bool (by simp), rfl⟩

set_option maxHeartbeats 400000 in
theorem iWidthOk (m : Int) (w : World) :
    Calls Tryz.prog 140 #[.int .i64 m] w fun e w' => e = .returned (.bool (decide (1 ≤ m ∧ m ≤ 8))) ∧ w' = w := by
  by_cases h1 : 1 ≤ m <;> by_cases h2 : m ≤ 8
  all_goals
    go_enter Tryz.func140, Tryz.ntmps140
    go_wp2
    go_ret
    exact ⟨ret_bool (by simp <;> omega), rfl⟩

set_option maxHeartbeats 400000 in
theorem iWordOk (m a : Int) (w : World) :
    Calls Tryz.prog 151 #[.int .i64 m, .int .i64 a] w fun e w' => e = .returned (.bool (wok m a)) ∧ w' = w := by
  by_cases h : 1 ≤ m ∧ m ≤ 8
  · have hd : decide (1 ≤ m ∧ m ≤ 8) = true := by simpa using h
    by_cases ha : 0 ≤ a
    all_goals
      go_enter Tryz.func151, Tryz.ntmps151
      go_wp2_with (go_at_call 140; refine (iWidthOk _ _).mono ?_; rintro e w' ⟨rfl, rfl⟩)
      go_ret
      exact ⟨ret_bool (by rw [Bool.eq_iff_iff]; try rw [wrap_p2 _ (by omega)]
                          simp [wok]; omega), rfl⟩
  · have hd : decide (1 ≤ m ∧ m ≤ 8) = false := by simpa using h
    go_enter Tryz.func151, Tryz.ntmps151
    go_wp2_with (go_at_call 140; refine (iWidthOk _ _).mono ?_; rintro e w' ⟨rfl, rfl⟩)
    go_ret
    exact ⟨ret_bool (by unfold wok; symm; rw [decide_eq_false_iff_not]; omega), rfl⟩

set_option maxHeartbeats 400000 in
theorem iTwo (m a b : Int) (w : World) :
    Calls Tryz.prog 200 #[.int .i64 m, .int .i64 a, .int .i64 b] w fun e w' => e = .returned (.bool (wok m a && wok m b)) ∧ w' = w := by
  cases hA : wok m a
  all_goals
    go_enter Tryz.func200, Tryz.ntmps200
    go_wp2_with (go_at_call 151; refine (iWordOk _ _ _).mono ?_; rintro e w' ⟨rfl, rfl⟩)
    go_ret
    exact ⟨ret_bool (by simp), rfl⟩

set_option maxHeartbeats 400000 in
theorem plus (a b m : Int) (w : World) (ha : 0 ≤ a) (ha' : a ≤ 255) (hb : 0 ≤ b) (hb' : b ≤ 255) (h0 : 1 ≤ m) (h1 : m ≤ 8) :
    Calls Tryz.prog 201 #[.int .u8 a, .int .i64 m, .int .u8 b] w fun e w' => e = .returned (.int .u8 ((a + b) % p2 m.toNat)) ∧ w' = w := by
  go_enter Tryz.func201, Tryz.ntmps201
  go_wp2_with (go_at_call 209; refine (cut _ m _ (by omega) (by omega) h0 h1).mono ?_; rintro e w' ⟨rfl, rfl⟩)
  go_ret
  exact ⟨ret_int (mod256 _ _ (by omega)), rfl⟩

set_option maxHeartbeats 400000 in
theorem minus (a b m : Int) (w : World) (ha : 0 ≤ a) (ha' : a ≤ 255) (hb : 0 ≤ b) (hb' : b ≤ 255) (h0 : 1 ≤ m) (h1 : m ≤ 8) :
    Calls Tryz.prog 202 #[.int .u8 a, .int .i64 m, .int .u8 b] w fun e w' => e = .returned (.int .u8 ((a - b) % p2 m.toNat)) ∧ w' = w := by
  go_enter Tryz.func202, Tryz.ntmps202
  go_wp2_with (go_at_call 209; refine (cut _ m _ (by omega) (by omega) h0 h1).mono ?_; rintro e w' ⟨rfl, rfl⟩)
  go_ret
  exact ⟨ret_int (mod256 _ _ (by omega)), rfl⟩

set_option maxHeartbeats 400000 in
theorem times (a b m : Int) (w : World) (ha : 0 ≤ a) (ha' : a ≤ 255) (hb : 0 ≤ b) (hb' : b ≤ 255) (h0 : 1 ≤ m) (h1 : m ≤ 8) :
    Calls Tryz.prog 203 #[.int .u8 a, .int .i64 m, .int .u8 b] w fun e w' => e = .returned (.int .u8 (a * b % p2 m.toNat)) ∧ w' = w := by
  go_enter Tryz.func203, Tryz.ntmps203
  go_wp2_with (go_at_call 209; refine (cut _ m _ (by omega) (by omega) h0 h1).mono ?_; rintro e w' ⟨rfl, rfl⟩)
  go_ret
  exact ⟨ret_int (mod256 _ _ (by omega)), rfl⟩

set_option maxHeartbeats 400000 in
theorem over (a b m : Int) (w : World) (ha : 0 ≤ a) (ha' : a ≤ 255) (hb : 0 ≤ b) (hb' : b ≤ 255) (h0 : 1 ≤ m) (h1 : m ≤ 8) :
    Calls Tryz.prog 204 #[.int .u8 a, .int .i64 m, .int .u8 b] w fun e w' => e = .returned (.int .u8 (if b = 0 then p2 m.toNat - 1 else a / b)) ∧ w' = w := by
  by_cases hz : b = 0
  · subst hz
    go_enter Tryz.func204, Tryz.ntmps204
    go_wp2_with (go_at_call 214; refine (mask m _ h0 h1).mono ?_; rintro e w' ⟨rfl, rfl⟩)
    go_ret
    exact ⟨rfl, rfl⟩
  · have hz' : (b == 0) = false := by simpa using hz
    go_enter Tryz.func204, Tryz.ntmps204
    go_wp2
    go_ret
    exact ⟨rfl, rfl⟩

set_option maxHeartbeats 400000 in
theorem rest (a b : Int) (w : World) (ha : 0 ≤ a) (ha' : a ≤ 255) (hb : 0 ≤ b) (hb' : b ≤ 255) :
    Calls Tryz.prog 205 #[.int .u8 a, .int .u8 b] w fun e w' => e = .returned (.int .u8 (if b = 0 then a else a % b)) ∧ w' = w := by
  by_cases hz : b = 0
  · subst hz
    go_enter Tryz.func205, Tryz.ntmps205
    go_wp2
    go_ret
    exact ⟨rfl, rfl⟩
  · have hz' : (b == 0) = false := by simpa using hz
    go_enter Tryz.func205, Tryz.ntmps205
    go_wp2
    go_ret
    exact ⟨rfl, rfl⟩

set_option maxHeartbeats 400000 in
theorem up (a b m : Int) (w : World) (ha : 0 ≤ a) (ha' : a ≤ 255) (hb : 0 ≤ b) (hb' : b ≤ 7) (h0 : 1 ≤ m) (h1 : m ≤ 8) :
    Calls Tryz.prog 206 #[.int .u8 a, .int .i64 m, .int .u8 b] w fun e w' => e = .returned (.int .u8 (a * p2 b.toNat % p2 m.toNat)) ∧ w' = w := by
  go_enter Tryz.func206, Tryz.ntmps206
  go_wp2_with (go_at_call 209; refine (cut _ m _ (by omega) (by omega) h0 h1).mono ?_; rintro e w' ⟨rfl, rfl⟩)
  go_ret
  exact ⟨ret_int (mod256 _ _ (by omega)), rfl⟩

set_option maxHeartbeats 400000 in
theorem upFar (a b m : Int) (w : World) (ha : 0 ≤ a) (ha' : a ≤ 255) (hb : 8 ≤ b) (h0 : 1 ≤ m) (h1 : m ≤ 8) :
    Calls Tryz.prog 206 #[.int .u8 a, .int .i64 m, .int .u8 b] w fun e w' => e = .returned (.int .u8 0) ∧ w' = w := by
  have hs := shl8 a b .u8 hb
  go_enter Tryz.func206, Tryz.ntmps206
  go_wp2_with (go_at_call 209; refine (cut _ m _ (by omega) (by omega) h0 h1).mono ?_; rintro e w' ⟨rfl, rfl⟩)
  go_ret
  exact ⟨ret_int (by simp), rfl⟩

set_option maxHeartbeats 400000 in
theorem down (a b : Int) (w : World) (ha : 0 ≤ a) (ha' : a ≤ 255) (hb : 0 ≤ b) (hb' : b ≤ 7) :
    Calls Tryz.prog 207 #[.int .u8 a, .int .u8 b] w fun e w' => e = .returned (.int .u8 (a / p2 b.toNat)) ∧ w' = w := by
  go_enter Tryz.func207, Tryz.ntmps207
  go_wp2
  go_ret
  exact ⟨rfl, rfl⟩

set_option maxHeartbeats 400000 in
theorem downFar (a b : Int) (w : World) (ha : 0 ≤ a) (ha' : a ≤ 255) (hb : 8 ≤ b) :
    Calls Tryz.prog 207 #[.int .u8 a, .int .u8 b] w fun e w' => e = .returned (.int .u8 0) ∧ w' = w := by
  have hs := shr8 a b .u8 hb ha ha'
  go_enter Tryz.func207, Tryz.ntmps207
  go_wp2
  go_ret
  exact ⟨rfl, rfl⟩

set_option maxHeartbeats 400000 in
theorem flip (a m : Int) (w : World) (ha : 0 ≤ a) (ha' : a < p2 m.toNat) (h0 : 1 ≤ m) (h1 : m ≤ 8) :
    Calls Tryz.prog 199 #[.int .u8 a, .int .i64 m] w fun e w' => e = .returned (.int .u8 (p2 m.toNat - 1 - a)) ∧ w' = w := by
  have hl := p2_le m.toNat (by omega)
  have hx := xor255 a ha (by omega)
  have HF : Hid ((255 - a) % p2 m.toNat = p2 m.toNat - 1 - a) := flip_spec a _ (by omega) ha ha'
  go_enter Tryz.func199, Tryz.ntmps199
  go_wp2_with (go_at_call 209; refine (cut _ m _ (by omega) (by omega) h0 h1).mono ?_; rintro e w' ⟨rfl, rfl⟩)
  go_ret
  exact ⟨ret_int HF.out, rfl⟩

set_option maxHeartbeats 400000 in
theorem signed (a m : Int) (w : World) (ha : 0 ≤ a) (ha' : a < p2 m.toNat) (h0 : 1 ≤ m) (h1 : m ≤ 8) :
    Calls Tryz.prog 208 #[.int .u8 a, .int .i64 m] w fun e w' => e = .returned (.int .i64 (sgn m a)) ∧ w' = w := by
  have hp := p2_le m.toNat (by omega)
  have hq := p2_pos m.toNat
  have HW : Hid (wrap64 (2 ^ m.toNat) = p2 m.toNat) := wrap_p2 _ (by omega)
  by_cases hs : p2 (m - 1).toNat ≤ a
  · have hd : (a / 2 ^ (m.toNat - 1) == 0) = false := sgn_hi h0 hs
    have HS : Hid (sgn m a = a - p2 m.toNat) := sgn_pos hs
    clear hs
    go_enter Tryz.func208, Tryz.ntmps208
    go_wp2
    go_ret
    exact ⟨ret_int (by rw [HS.out, HW.out]; unfold wrap64; omega), rfl⟩
  · have hd : (a / 2 ^ (m.toNat - 1) == 0) = true := sgn_lo h0 ha hs
    have HS : Hid (sgn m a = a) := sgn_neg hs
    clear hs
    go_enter Tryz.func208, Tryz.ntmps208
    go_wp2
    go_ret
    exact ⟨ret_int (by rw [HS.out]), rfl⟩

end Go.Proofs.YtejgcchkhljnjaaGreat.Wd1

/- What the root reaches: the root, the parts of what it reaches, and nothing else. -/
namespace Go.Proofs.YtejgcchkhljnjaaGreat.Tm8
open Nd0 Pl1 Tm0 Tm1 Tm2 Tm3

theorem markAll_flag (ps : List Int) : ∀ (bs : List Bool) (i : Nat), i < bs.length → flag (markAll bs ps) i = (flag bs i || ps.any fun p => p.toNat == i) := by
  induction ps with
  | nil => intro bs i _; simp [markAll]
  | cons p ps ih =>
    intro bs i hi
    show flag (markAll (bs.set p.toNat true) ps) i = _
    rw [ih _ _ (by rw [List.length_set]; exact hi)]
    by_cases hp : p.toNat < bs.length
    · rw [flag_set hp]
      by_cases e : p.toNat = i
      · simp [e]
      · have e' : (p.toNat == i) = false := by simpa using e
        rw [if_neg e, List.any_cons, e', Bool.false_or]
    · have : bs.set p.toNat true = bs := List.set_eq_of_length_le (by omega)
      rw [this]
      have e' : (p.toNat == i) = false := by simp; omega
      rw [List.any_cons, e', Bool.false_or]
def Down (l : List Nd) : Prop := ∀ i, i < l.length → ∀ p ∈ parts (nth l i), 0 ≤ p ∧ p < (i : Int)
theorem down_of {l : List Nd} (h : termOk l = true) : Down l := by
  intro i hi p hp
  obtain ⟨j, hj, rfl⟩ := List.getElem_of_mem hp
  exact parts_ok (term_node h hi) j hj
theorem step_flag {l : List Nd} (bs : List Bool) (k i : Nat) (hi : i < bs.length) : flag (reachStep l bs k) i = (flag bs i || (flag bs k && (parts (nth l k)).any fun p => p.toNat == i)) := by
  unfold reachStep
  cases h : flag bs k
  · simp
  · rw [if_pos rfl, markAll_flag _ _ _ hi]; simp
theorem down_high {l : List Nd} (hD : Down l) : ∀ (k : Nat) (bs : List Bool), bs.length = l.length → k ≤ l.length → ∀ i, k ≤ i + 1 → i < l.length → flag (reachDown l k bs) i = flag bs i := by
  intro k
  induction k with
  | zero => intro bs _ _ i _ _; rfl
  | succ k ih =>
    intro bs hb hk i hi hl
    show flag (reachDown l k (reachStep l bs k)) i = _
    rw [ih _ (by rw [reachStep_length]; exact hb) (by omega) i (by omega) hl, step_flag _ _ _ (by omega)]
    have : ((parts (nth l k)).any fun p => p.toNat == i) = false := by
      rw [List.any_eq_false]
      intro p hp
      have := hD k (by omega) p hp
      simp; omega
    rw [this]; simp
theorem down_closed {l : List Nd} (hD : Down l) : ∀ (k : Nat) (bs : List Bool), bs.length = l.length → k ≤ l.length → (∀ i, k ≤ i → i < l.length → flag bs i = true → ∀ p ∈ parts (nth l i), flag bs p.toNat = true) →
    ∀ i, i < l.length → flag (reachDown l k bs) i = true → ∀ p ∈ parts (nth l i), flag (reachDown l k bs) p.toNat = true := by
  intro k
  induction k with
  | zero => intro bs _ _ h i hi hf p hp; exact h i (by omega) hi hf p hp
  | succ k ih =>
    intro bs hb hk h
    refine ih (reachStep l bs k) (by rw [reachStep_length]; exact hb) (by omega) ?_
    intro i hki hi hf p hp
    have hpd := hD i hi p hp
    rw [step_flag _ _ _ (by omega)] at hf
    rw [step_flag _ _ _ (by omega)]
    have hna : ((parts (nth l k)).any fun q => q.toNat == i) = false := by
      rw [List.any_eq_false]
      intro q hq
      have := hD k (by omega) q hq
      simp; omega
    rw [hna, Bool.and_false, Bool.or_false] at hf
    by_cases e : i = k
    · subst e
      rw [hf]
      have : ((parts (nth l i)).any fun q => q.toNat == p.toNat) = true := List.any_eq_true.2 ⟨p, hp, by simp⟩
      rw [this]; simp
    · rw [h i (by omega) hi hf p hp]; simp
theorem init_flag (n i : Nat) (h : i < n) : flag (reachInit n) i = (i + 1 == n) := by simp [flag, reachInit, List.getD, h]
theorem reach_closed {l : List Nd} (hD : Down l) {i : Nat} (hi : i < l.length) (hf : flag (reachL l) i = true) {p : Int} (hp : p ∈ parts (nth l i)) : flag (reachL l) p.toNat = true :=
  down_closed hD l.length _ (reachInit_length _) (Nat.le_refl _) (fun i h1 h2 => by omega) i hi hf p hp
theorem down_more {l : List Nd} : ∀ (k : Nat) (bs : List Bool), bs.length = l.length → ∀ i, i < l.length → flag bs i = true → flag (reachDown l k bs) i = true := by
  intro k
  induction k with
  | zero => intro bs _ i _ h; exact h
  | succ k ih =>
    intro bs hb i hi h
    refine ih (reachStep l bs k) (by rw [reachStep_length]; exact hb) i hi ?_
    rw [step_flag _ _ _ (by omega), h]; rfl
theorem reach_root {l : List Nd} (h : 1 ≤ l.length) : flag (reachL l) (l.length - 1) = true :=
  down_more l.length _ (reachInit_length _) _ (by omega) (by rw [init_flag _ _ (by omega)]; simp; omega)
theorem down_why {l : List Nd} (hD : Down l) : ∀ (k : Nat) (bs : List Bool), bs.length = l.length → k ≤ l.length → ∀ i, i < l.length → flag (reachDown l k bs) i = true → flag bs i = true ∨ ∃ j, i < j ∧ j < l.length ∧ flag (reachDown l k bs) j = true ∧ (i : Int) ∈ parts (nth l j) := by
  intro k
  induction k with
  | zero => intro bs _ _ i _ h; exact .inl h
  | succ k ih =>
    intro bs hb hk i hi h
    rcases ih (reachStep l bs k) (by rw [reachStep_length]; exact hb) (by omega) i hi h with h1 | h1
    · rw [step_flag _ _ _ (by omega)] at h1
      simp only [Bool.or_eq_true, Bool.and_eq_true] at h1
      rcases h1 with h1 | ⟨h1, h2⟩
      · exact .inl h1
      · obtain ⟨p, hp, hpe⟩ := List.any_eq_true.1 h2
        have hd := hD k (by omega) p hp
        simp at hpe
        have hpi : p = (i : Int) := by omega
        subst hpi
        refine .inr ⟨k, by omega, by omega, ?_, hp⟩
        exact down_more k _ (by rw [reachStep_length]; exact hb) k (by omega) (by rw [step_flag _ _ _ (by omega), h1]; rfl)
    · exact .inr h1
theorem reach_why {l : List Nd} (hD : Down l) {i : Nat} (hi : i < l.length) (hf : flag (reachL l) i = true) : i + 1 = l.length ∨ ∃ j, i < j ∧ j < l.length ∧ flag (reachL l) j = true ∧ (i : Int) ∈ parts (nth l j) := by
  rcases down_why hD l.length _ (reachInit_length _) (Nat.le_refl _) i hi hf with h | h
  · rw [init_flag _ _ hi] at h; exact .inl (by simpa using h)
  · exact .inr h

theorem reach_at (l : List Nd) : ∀ (k j : Nat) (h : j < (reachTo l k).length), ∃ x : Nat, (reachTo l k)[j] = (x : Int) ∧ x < k ∧ flag (reachL l) x = true ∧ (reachTo l x).length = j := by
  intro k
  induction k with
  | zero => intro j h; simp [reachTo] at h
  | succ k ih =>
    intro j h
    have e := reachTo_succ l k
    cases hf : flag (reachL l) k
    · rw [hf] at e
      simp only [Bool.false_eq_true, if_false] at e
      have h' : j < (reachTo l k).length := by rw [← e]; exact h
      obtain ⟨x, h1, h2, h3, h4⟩ := ih j h'
      exact ⟨x, by simp only [e]; exact h1, by omega, h3, h4⟩
    · rw [hf, if_pos rfl] at e
      have hlen : (reachTo l (k + 1)).length = (reachTo l k).length + 1 := by rw [e]; simp
      by_cases hj : j < (reachTo l k).length
      · obtain ⟨x, h1, h2, h3, h4⟩ := ih j hj
        refine ⟨x, ?_, by omega, h3, h4⟩
        simp only [e]
        rw [List.getElem_append_left hj]; exact h1
      · have hje : j = (reachTo l k).length := by omega
        refine ⟨k, ?_, by omega, hf, hje.symm⟩
        simp only [e, hje]
        rw [List.getElem_append_right (Nat.le_refl _)]
        simp
theorem reachTo_mono (l : List Nd) {a b : Nat} (h : a ≤ b) : (reachTo l a).length ≤ (reachTo l b).length := by
  induction b with
  | zero => have : a = 0 := by omega
            subst this; exact Nat.le_refl _
  | succ b ih =>
    by_cases e : a = b + 1
    · subst e; exact Nat.le_refl _
    · refine Nat.le_trans (ih (by omega)) ?_
      rw [reachTo_succ]; split
      · simp
      · exact Nat.le_refl _
theorem reachTo_lt (l : List Nd) {a b : Nat} (h : a < b) (hf : flag (reachL l) a = true) : (reachTo l a).length < (reachTo l b).length := by
  have h1 := reachTo_mono l (a := a + 1) (b := b) (by omega)
  rw [reachTo_succ, hf, if_pos rfl, List.length_append] at h1
  simp at h1; omega
theorem reachTo_inj (l : List Nd) {a b : Nat} (ha : flag (reachL l) a = true) (hb : flag (reachL l) b = true) (h : (reachTo l a).length = (reachTo l b).length) : a = b := by
  rcases Nat.lt_trichotomy a b with h1 | h1 | h1
  · have := reachTo_lt l h1 ha; omega
  · exact h1
  · have := reachTo_lt l h1 hb; omega
theorem prune_map (l : List Nd) (k : Nat) : pruneTo l k = (reachTo l k).map fun p => remap l (nth l p.toNat) := by
  unfold pruneTo reachTo; rw [List.map_map]; rfl

end Go.Proofs.YtejgcchkhljnjaaGreat.Tm8

/- When a term is a sentence: what the program asks, over the reached nodes alone. -/
namespace Go.Proofs.YtejgcchkhljnjaaGreat.Tm10
open Nd0 Pl1 Tm0 Tm1 Tm2 Tm3 Tm4 Tm5 Tm6 Tm8 Tm9 Rw1

theorem quants_skip1 (l : List Nd) (x : Nat) (h : flag (reachL l) x = false) : quantsTo l (x + 1) = quantsTo l x := by
  show (quantsTo l x).bind _ = _
  cases hq : quantsTo l x with
  | none => rfl
  | some ws => show qStep l ws x = _; unfold qStep; rw [h]; rfl
theorem flag_between (l : List Nd) {x y z : Nat} (h : (reachTo l x).length = (reachTo l y).length) (h1 : x ≤ z) (h2 : z < y) : flag (reachL l) z = false := by
  cases hf : flag (reachL l) z
  · rfl
  · have a1 := reachTo_mono l h1
    have a2 := reachTo_lt l h2 hf
    omega
end Go.Proofs.YtejgcchkhljnjaaGreat.Tm10
