/- Small texts of mine, one behind the other. -/
import Derived.Test.YtmfpbhjmnadpkaaGreatDoorRows
import Derived.Deep.RegionWith
import Derived.Laws.MakeOwn
import Derived.Test.YtmfpbhjmnadpkaaGreatDoorPkU18
import Derived.Test.YtmfpbhjmnadpkaaGreatDoorPkU20
import Derived.Test.YtmfpbhjmnadpkaaGreatDoorPkU10
import Derived.Test.YtmfpbhjmnadpkaaGreatDoorPkU6
import Derived.Test.YtmfpbhjmnadpkaaGreatDoorPkU12
/- The program's keyOk and numbersText; the model's l11Plain. -/
namespace Go.Proofs.YtmfpbhjmnadpkaaGreatDoor.Zs1
open Go.RowKit
open Nd0 (Kept Ints lt_of_cell)
open Tx0 Ap4 Ap5 Zs0
open Ss0 (bs bs_size ret_str)
open Ss1 (tl tl_length tl_take tl_get tl_bs)
open Tc2 (ret_bool sInT sInF)
open Tk0 (TabK)
set_option linter.unusedVariables false

theorem pl_no {s : List UInt8} {c : UInt8} (hc : c ∈ s) (h1 : isDig c = false) (h2 : c ≠ 58) : plB s = false := by
  unfold plB
  refine decide_eq_false ?_
  rintro ⟨_, h⟩
  rcases h c hc with e | e
  · rw [h1] at e; cases e
  · exact h2 e
theorem pl_end {s : List UInt8} (h : ∀ c ∈ s, isDig c = true ∨ c = 58) : plB s = decide (s ≠ []) := by
  unfold plB
  by_cases e : s = []
  · subst e; simp
  · rw [decide_eq_true ⟨e, h⟩, decide_eq_true e]
theorem iDigit (c : UInt8) (w : World) : Calls Tryz.prog 138 #[.int .u8 (c.toNat : Int)] w fun e w' => e = .returned (.bool (isDig c)) ∧ w' = w := by
  by_cases h1 : (48 : Int) ≤ (c.toNat : Int)
  · by_cases h2 : (c.toNat : Int) ≤ 57
    · have HD : Hid (isDig c = true) := decide_eq_true (by omega)
      go_enter Tryz.func138, Tryz.ntmps138
      go_wp2
      go_ret
      exact ⟨ret_bool HD.out.symm, rfl⟩
    · have HD : Hid (isDig c = false) := decide_eq_false (by omega)
      go_enter Tryz.func138, Tryz.ntmps138
      go_wp2
      go_ret
      exact ⟨ret_bool HD.out.symm, rfl⟩
  · have HD : Hid (isDig c = false) := decide_eq_false (by omega)
    go_enter Tryz.func138, Tryz.ntmps138
    go_wp2
    go_ret
    exact ⟨ret_bool HD.out.symm, rfl⟩
set_option maxRecDepth 100000 in
set_option maxHeartbeats 2000000 in
theorem iKeyOk (S : ByteArray) (w : World) (hS : S.size ≤ 1048576) :
    Calls Tryz.prog 107 #[.string S] w fun e w' => e = .returned (.bool (plB (tl S))) ∧ w' = w := by
  have HLEN : Hid ((tl S).length = S.size) := tl_length S
  go_enter Tryz.func107, Tryz.ntmps107
  go_wp2
  go_loop [6] (fun i => ∃ k : Nat, k ≤ S.size ∧ i = .int .i64 k ∧ ∀ c ∈ (tl S).take k, isDig c = true ∨ c = 58) (fun i => S.size - (intOf i).toNat)
  case atStart => exact ⟨0, Nat.zero_le _, rfl, fun c hc => by simp at hc⟩
  case round =>
    obtain ⟨k, hk, rfl, hg⟩ := hrel
    have HG : Hid (∀ c ∈ (tl S).take k, isDig c = true ∨ c = 58) := hg
    clear hg
    by_cases hlt : k < S.size
    · have hlz : (k : Int) < (S.size : Int) := by omega
      have HX : Hid ((tl S).take (k + 1) = (tl S).take k ++ [S[k]]) := tl_take S k hlt
      have HM : Hid (S[k] ∈ tl S) := by
        show _ ∈ _
        rw [tl_get S k hlt]; exact List.getElem_mem _
      have HDI : Hid (∀ W, Calls Tryz.prog 138 #[.int .u8 (S[k].toNat : Int)] W fun e w' => e = .returned (.bool (isDig S[k])) ∧ w' = W) := fun W => iDigit S[k] W
      cases hd : isDig S[k]
      · rw [hd] at HDI
        by_cases h8 : S[k] = 58
        · have b8 : ((S[k].toNat : Int) != 58) = false := by rw [h8]; rfl
          have H8 : Hid (isDig S[k] = true ∨ S[k] = 58) := .inr h8
          clear h8 hd
          go_wp2_with (go_at_call 138; refine (HDI.out _).mono ?_; rintro e w2 ⟨rfl, hw2⟩; have hw2' := hw2.symm; clear hw2; subst hw2')
          go_round
          case rel => exact ⟨k + 1, by omega, by go_num, fun c hc => by
            rw [HX.out] at hc
            rcases List.mem_append.1 hc with h | h
            · exact HG.out c h
            · rw [List.mem_singleton.1 h]; exact H8.out⟩
          case measure => simp [intOf]; omega
        · have b8 : ((S[k].toNat : Int) != 58) = true := bne_iff_ne.2 fun e => h8 (UInt8.toNat_inj.1 (by have : (58 : UInt8).toNat = 58 := rfl; omega))
          have HF : Hid (plB (tl S) = false) := pl_no HM.out hd h8
          clear h8 hd
          go_wp2_with (go_at_call 138; refine (HDI.out _).mono ?_; rintro e w2 ⟨rfl, hw2⟩; have hw2' := hw2.symm; clear hw2; subst hw2')
          go_ret
          exact ⟨ret_bool HF.out.symm, rfl⟩
      · rw [hd] at HDI
        have H8 : Hid (isDig S[k] = true ∨ S[k] = 58) := .inl hd
        clear hd
        go_wp2_with (go_at_call 138; refine (HDI.out _).mono ?_; rintro e w2 ⟨rfl, hw2⟩; have hw2' := hw2.symm; clear hw2; subst hw2')
        go_round
        case rel => exact ⟨k + 1, by omega, by go_num, fun c hc => by
          rw [HX.out] at hc
          rcases List.mem_append.1 hc with h | h
          · exact HG.out c h
          · rw [List.mem_singleton.1 h]; exact H8.out⟩
        case measure => simp [intOf]; omega
    · have hlz : ¬ (k : Int) < (S.size : Int) := by omega
      have HE : Hid (plB (tl S) = decide (tl S ≠ [])) := by
        have hg := HG.out
        rw [List.take_of_length_le (by have := HLEN.out; omega)] at hg
        exact pl_end hg
      by_cases h0 : tl S = []
      · have hz : (S.toList == []) = true := Ss1.eql_true h0
        have HF : Hid (plB (tl S) = false) := by show _ = _; rw [HE.out]; simp [h0]
        clear h0
        go_wp2
        go_ret
        exact ⟨ret_bool HF.out.symm, rfl⟩
      · have hz : (S.toList == []) = false := Ss1.eql_false h0
        have HF : Hid (plB (tl S) = true) := by show _ = _; rw [HE.out]; simp [h0]
        clear h0
        go_wp2
        go_ret
        exact ⟨ret_bool HF.out.symm, rfl⟩

theorem iItoa (n : Int) (h0 : -1 ≤ n) (h1 : n ≤ 1000000000) (w : World) (hT : TabK w) :
    Calls Tryz.prog 117 #[.int .i64 n] w fun e w' => e = .returned (.string (bs (Lib.itoa n))) ∧ Below w.heap.size w w' := by
  refine (Tryz.strconv_Itoa n (by omega) (by omega) w hT.pow).mono ?_
  rintro e w' ⟨rfl, k, os, rfl⟩
  exact ⟨rfl, Lib.below_grow _ _ (Nat.le_refl _) k os⟩
theorem iJoin (L : List (List UInt8)) (sp : List UInt8) (g c N B : Nat) (w : World) (hO : Ost w B (.slice (some ⟨g, 0, none⟩) N c) L) (hN : N ≤ 1048577) (hl : (Lib.join L sp).length ≤ 140737488355328) :
    Calls Tryz.prog 110 #[.slice (some ⟨g, 0, none⟩) N c, .string (bs sp)] w fun e w' => e = .returned (.string (bs (Lib.join L sp))) ∧ Below w.heap.size w w' := by
  have hc := Ost.cap hO
  have hlen : (L.map bs).length = N := by rw [List.length_map]; exact hc.1.symm
  have hmb : (L.map bs).map (·.data.toList) = L := by
    rw [List.map_map]
    exact (List.map_congr_left (fun x _ => rfl)).trans (List.map_id _)
  have h9 := Tryz.strings_Join g 0 c (L.map bs) (bs sp) w (fun i x hx => by
    rw [List.getElem?_map] at hx
    obtain ⟨y, hy, rfl⟩ := Option.map_eq_some_iff.1 hx
    have hi := (List.getElem?_eq_some_iff.1 hy).1
    rw [Nat.zero_add, Ost.cells hO i hi]
    rw [List.getElem?_eq_getElem hi] at hy
    cases hy; rfl) (hO.lt g rfl).2 (by rw [hlen]; omega) (by rw [List.length_map]; exact hc.2) (by rw [hmb]; exact hl)
  rw [hlen, hmb] at h9
  refine h9.mono ?_
  rintro e w' ⟨rfl, hb⟩
  exact ⟨rfl, hb⟩

theorem nums_len : ∀ (l : List Int), (∀ n ∈ l, -1 ≤ n ∧ n ≤ 1000000000) → (Lib.join (l.map Lib.itoa) [32]).length ≤ 11 * l.length := by
  intro l
  cases l with
  | nil => intro _; simp [Lib.join_nil]
  | cons x r =>
    intro h
    rw [List.map_cons, Lib.join_cons, List.length_append, List.length_cons]
    have hx := itoa_len (h x (by simp)).1 (h x (by simp)).2
    have hr : ∀ (r : List Int), (∀ n ∈ r, -1 ≤ n ∧ n ≤ 1000000000) → (Lib.joinTail [32] (r.map Lib.itoa)).length ≤ 11 * r.length := by
      intro r
      induction r with
      | nil => intro _; simp [Lib.joinTail]
      | cons y r ih =>
        intro h
        have hy := itoa_len (h y (by simp)).1 (h y (by simp)).2
        have := ih (fun n hn => h n (by simp [hn]))
        simp only [Lib.joinTail, List.map_cons, List.flatten_cons, List.length_append, List.length_cons, List.length_nil] at this ⊢
        omega
    have := hr r (fun n hn => h n (by simp [hn]))
    omega
set_option maxRecDepth 100000 in
set_option maxHeartbeats 2000000 in
theorem iNumbers (w : World) (a : Option Addr) (l : List Int) (c : Nat) (h : Ints w a l) (hl : l.length ≤ 100) (hb : ∀ n ∈ l, -1 ≤ n ∧ n ≤ 1000000000) (hT : TabK w) :
    Calls Tryz.prog 172 #[.slice a l.length c] w fun e w' => e = .returned (.string (bs (Lib.join (l.map Lib.itoa) [32]))) ∧ Below w.heap.size w w' := by
  have H : Hid (Ints w a l) := h
  have HBT : Hid (∀ n ∈ l, -1 ≤ n ∧ n ≤ 1000000000) := hb
  have HT : Hid (TabK w) := hT
  clear h hb hT
  obtain ⟨n, hn⟩ : ∃ n, n = l.length := ⟨_, rfl⟩
  rw [← hn]
  have hn2 : n ≤ 100 := by omega
  have HN : Hid (n = l.length) := hn
  obtain ⟨TK, hTK⟩ : ∃ TK : Nat → List (List UInt8), TK = fun k => (l.take k).map Lib.itoa := ⟨_, rfl⟩
  have HTK : Hid (TK = fun k => (l.take k).map Lib.itoa) := hTK
  have HTL : Hid (∀ k, k ≤ n → (TK k).length = k) := by intro k hk; rw [hTK]; simp; omega
  have HT0 : Hid (TK 0 = []) := by show _ = _; rw [hTK]; rfl
  clear hn hl hTK
  go_enter Tryz.func172, Tryz.ntmps172
  go_wp2
  go_loopw [3, 9] (fun v i wr => ∃ k : Nat, k ≤ n ∧ i = .int .i64 k ∧ (∃ g cp, v = .slice (some ⟨g, 0, none⟩) k cp) ∧ Ost wr w.heap.size v (TK k) ∧ Below w.heap.size w wr) (fun _ i _ => n - (intOf i).toNat)
  case atStart => exact ⟨0, Nat.zero_le _, rfl, ⟨_, _, rfl⟩, by rw [HT0.out]; exact Ost.lit _ _ (Nat.le_refl _), (Below.refl _ _).alloc (Nat.le_refl _) _⟩
  case round =>
    obtain ⟨k, hk, rfl, ⟨g3, cp3, rfl⟩, ho, hbr⟩ := hrel
    have HO : Hid (Ost wr w.heap.size (.slice (some ⟨g3, 0, none⟩) k cp3) (TK k)) := ho
    have HB : Hid (Below w.heap.size w wr) := hbr
    clear ho hbr
    by_cases hlt : k < n
    · have hlz : (k : Int) < (n : Int) := by omega
      have hkl : k < l.length := by have := HN.out; omega
      obtain ⟨b, o, ha, hc⟩ : ∃ b o, a = some ⟨b, o, none⟩ ∧ wr.cell? ⟨b, o + k, none⟩ = some (.int .i64 l[k]) := by
        rcases (H.out.below HB.out).2 with e | ⟨b, o, e, hc⟩
        · omega
        · exact ⟨b, o, e, hc k hkl⟩
      subst ha
      have hbl := lt_of_cell hc
      have HBK : Hid (-1 ≤ l[k] ∧ l[k] ≤ 1000000000) := HBT.out _ (List.getElem_mem hkl)
      have HNX : Hid (TK (k + 1) = TK k ++ [Lib.itoa l[k]]) := by
        show _ = _
        rw [HTK.out]
        show (l.take (k + 1)).map Lib.itoa = (l.take k).map Lib.itoa ++ [Lib.itoa l[k]]
        rw [List.take_succ_eq_append_getElem hkl, List.map_append]
        rfl
      have HLK : Hid ((TK k).length = k) := HTL.out k hk
      generalize l[k] = x at *
      have HIT : Hid (∀ W, TabK W → Calls Tryz.prog 117 #[.int .i64 x] W fun e w' => e = .returned (.string (bs (Lib.itoa x))) ∧ Below W.heap.size W w') := fun W h => iItoa x HBK.out.1 HBK.out.2 W h
      generalize Lib.itoa x = xs at *
      go_wp2_with (first | (go_at_call 117; refine (HIT.out _ (HT.out.below HB.out)).mono ?_; rintro e w4 ⟨rfl, hb4⟩; have HO4 : Hid (Ost w4 w.heap.size (.slice (some ⟨g3, 0, none⟩) k cp3) (TK k)) := Ost.below HO.out hb4; have HB4 : Hid (Below w.heap.size w w4) := HB.out.trans (hb4.mono HB.out.size); clear hb4) | (at_builtin; go_must (refine app_str _ rfl _ _ rfl w.heap.size (.slice (some ⟨g3, 0, none⟩) k cp3) (TK k) xs rfl rfl HO4.out HB4.out.size (by rw [HLK.out]; omega) ?_; rw [HLK.out]; intro g5 cp5 w5 ho5 hk5 hg5; have HO5 : Hid (Ost w5 w.heap.size (.slice (some ⟨g5, 0, none⟩) (k + 1) cp5) (TK k ++ [xs])) := ho5; have HK5 : Hid (Kept (fun i => (Value.slice (some ⟨g3, 0, none⟩) k cp3).ownBlock = some i) w4 w5) := hk5; clear ho5 hk5 hg5)))
      go_roundw
      case rel => exact ⟨k + 1, by omega, by go_num, ⟨_, _, rfl⟩, by rw [HNX.out]; exact HO5.out, HB4.out.trans (HK5.out.below (fun i hi => (HO4.out.lt i hi).1) HB4.out.size)⟩
      case measure => simp [intOf]; omega
    · have hlz : ¬ (k : Int) < (n : Int) := by omega
      have e : k = n := by omega
      have HJ : Hid (Calls Tryz.prog 110 #[.slice (some ⟨g3, 0, none⟩) k cp3, .string ⟨#[32]⟩] wr fun e w' => e = .returned (.string (bs (Lib.join (l.map Lib.itoa) [32]))) ∧ Below wr.heap.size wr w') := by
        have hT : TK k = l.map Lib.itoa := by
          rw [HTK.out]
          show (l.take k).map Lib.itoa = _
          rw [List.take_of_length_le (by have := HN.out; omega)]
        have hh := HO.out
        rw [hT] at hh
        exact iJoin (l.map Lib.itoa) [32] g3 cp3 k _ wr hh (by omega) (by have := nums_len l HBT.out; have := HN.out; omega)
      clear e
      obtain ⟨R, hR⟩ : ∃ R, R = bs (Lib.join (l.map Lib.itoa) [32]) := ⟨_, rfl⟩
      have HRR : Hid (R = bs (Lib.join (l.map Lib.itoa) [32])) := hR
      rw [← hR] at HJ
      clear hR
      go_wp2_with fail
      refine Calls.mono HJ.out ?_
      rintro e w6 ⟨rfl, hb6⟩
      have HB6 : Hid (Below w.heap.size w w6) := HB.out.trans (hb6.mono HB.out.size)
      clear hb6
      go_wp2
      go_ret
      exact ⟨ret_str HRR.out, HB6.out⟩
end Go.Proofs.YtmfpbhjmnadpkaaGreatDoor.Zs1

/- Walks of the exact laws' helpers on Seens. Written by tools/gen_qc1.py. -/
namespace Go.Proofs.YtmfpbhjmnadpkaaGreatDoor.Qc1
open Go.RowKit
open Nd0 Nd1 Qc0
set_option linter.unusedVariables false

set_option maxHeartbeats 1000000 in
theorem toSeen (a : ByteArray) (b : Int) (w : World) :
    Calls Tryz.prog 125 #[.agg #[.string a, .int .i64 b]] w fun e w' => e = .returned (.agg #[.string a, .int .i64 b]) ∧ Below w.heap.size w w' := by
  go_enter Tryz.func125, Tryz.ntmps125
  go_wp2
  refine bodyPost_ret (v := .agg #[.string a, .int .i64 b]) (by simp [results, Tryz.results125, go_sem]) rfl ⟨rfl, ?_⟩
  exact (((Below.refl _ _).alloc (Nat.le_refl _) _).alloc (by simp) _).alloc (by simp; omega) _

set_option maxHeartbeats 1000000 in
theorem eqSeen (a : ByteArray) (b : Int) (w : World) :
    Calls Tryz.prog 126 #[.agg #[.string a, .int .i64 b], .agg #[.string a, .int .i64 b]] w fun e w' => e = .returned (.bool true) ∧ Below w.heap.size w w' := by
  have hb0 : (a.toList == a.toList) = true := by simp
  have hb1 : (b != b) = false := by simp
  go_enter Tryz.func126, Tryz.ntmps126
  go_wp2
  go_ret
  exact ⟨rfl, ((Below.refl _ _).alloc (Nat.le_refl _) _).alloc (by simp) _⟩

set_option maxHeartbeats 1000000 in
theorem eqSeenS (w : World) (a a' : Option Addr) (l : List Sn) (c c' : Nat) (h : Sns w a l) (h' : Sns w a' l) :
    Calls Tryz.prog 79 #[.slice a l.length c, .slice a' l.length c'] w fun e w' => e = .returned (.bool true) ∧ Below w.heap.size w w' := by
  have H : Hid (Sns w a l) := h
  have H' : Hid (Sns w a' l) := h'
  have hm := h.1
  unfold maxLen at hm
  clear h h'
  go_enter Tryz.func79, Tryz.ntmps79
  go_wp2
  go_loopw [5] (fun i wr => ∃ k : Nat, k ≤ l.length ∧ i = .int .i64 k ∧ Below w.heap.size w wr) (fun i _ => l.length - (intOf i).toNat)
  case atStart => exact ⟨0, Nat.zero_le _, rfl, Below.refl _ _⟩
  case round =>
    obtain ⟨k, hk, rfl, hb⟩ := hrel
    have HB : Hid (Below w.heap.size w wr) := hb
    clear hb
    by_cases hlt : k < l.length
    · have hlz : (k : Int) < (l.length : Int) := by omega
      have HN := H.out.below HB.out
      have HN' := H'.out.below HB.out
      rcases HN.2 with h0 | ⟨xb, xo, rfl, hc⟩
      · omega
      rcases HN'.2 with h0 | ⟨yb, yo, rfl, hc'⟩
      · omega
      obtain ⟨p0, p1⟩ := hc k hlt
      obtain ⟨q0, q1⟩ := hc' k hlt
      clear hc hc' HN HN'
      generalize l[k] = x at p0 p1 q0 q1
      obtain ⟨x0, x1⟩ := x
      simp only at p0 p1 q0 q1
      go_wp2
      go_region_with (go_at_call 126; refine (eqSeen _ _ _).mono ?_; rintro e w' ⟨rfl, hbe⟩)
      all_goals
        have HB2 : Hid (Below w.heap.size w w') := HB.out.drew.trans (hbe.mono (by have := HB.out.size; simpa using this))
        clear hbe
        go_wp2
        go_roundw
        case rel => exact ⟨k + 1, by omega, by go_num, HB2.out⟩
        case measure => simp [intOf]; omega
    · go_wp2
      go_ret
      exact ⟨rfl, HB.out⟩

theorem infoSn : (Tryz.prog.info? 40).map (fun i => (i.zero, i.size, i.bytes)) = some (some (.agg #[.string ByteArray.empty, .int .i64 0]), 2, 24) := by kernel_rfl
def zerosSn (n : Nat) : Array Value := madeCells #[.string ByteArray.empty, .int .i64 0] (n * 2)
theorem makeSeens (n : Nat) (hn : n ≤ 1048576) (w : World) :
    (Instr.makeSlice 28 (.int .i64 (n : Int)) (.int .i64 (n : Int))).run Tryz.prog w = .ok (.slice (some ⟨w.heap.size, 0, none⟩) n n) (w.alloc (.cells (zerosSn n) 40)) := by
  obtain ⟨i, hi, hzz⟩ := Option.map_eq_some_iff.1 infoSn
  simp only [Prod.mk.injEq] at hzz
  obtain ⟨hz, hs, hb⟩ := hzz
  have h := run_make (P := Tryz.prog) w 28 40 i _ Tryz.underlying28 hi hz .i64 .i64 n n (by omega) (Int.le_refl _) (by rw [hb]; omega) (by omega)
  rw [hs] at h
  simpa [zerosSn, Value.cells] using h
theorem zerosSn_get (n i j : Nat) (h : i < n) (hj : j < 2) : (zerosSn n)[i * 2 + j]? = some (#[.string ByteArray.empty, .int .i64 0] : Array Value)[j]! := by
  simp only [zerosSn, madeCells, Array.getElem?_map, Array.getElem?_range]
  rw [if_pos (by omega)]
  simp only [Option.map_some]
  have e : (i * 2 + j) % 2 = j := by omega
  exact congrArg (fun m => some ((#[.string ByteArray.empty, .int .i64 0] : Array Value)[m]!)) e
theorem zerosSn_at (w : World) (n : Nat) (T : Nat) (j : Nat) (hj : j < n) : SnAt (w.alloc (.cells (zerosSn n) T)) w.heap.size (j * 2) Sn.zero := by
  refine ⟨by rw [World.cell?_alloc_new]; exact zerosSn_get n j 0 hj (by omega), by rw [World.cell?_alloc_new]; exact zerosSn_get n j 1 hj (by omega)⟩

set_option maxHeartbeats 2000000 in
theorem toSeenS (w : World) (a : Option Addr) (l : List Sn) (c : Nat) (h : Sns w a l) (hl : l.length ≤ 1048576) :
    Calls Tryz.prog 75 #[.slice a l.length c] w fun e w' => e = .returned (.slice (some ⟨w.heap.size, 0, none⟩) l.length l.length) ∧ WSns w' w.heap.size (some ⟨w.heap.size, 0, none⟩) l ∧ Below w.heap.size w w' := by
  have H : Hid (Sns w a l) := h
  clear h
  have hmk := makeSeens l.length hl
  go_enter Tryz.func75, Tryz.ntmps75
  go_wp2
  clear hmk
  go_loopw [4] (fun i wr => ∃ k : Nat, k ≤ l.length ∧ i = .int .i64 k ∧ Below w.heap.size w wr ∧ w.heap.size < wr.heap.size ∧ (∀ j, j < l.length * 2 → wr.frozen? ⟨w.heap.size, j, none⟩ = false) ∧ ∀ j (hj : j < l.length), ∃ v : Sn, SnAt wr w.heap.size (j * 2) v ∧ (j < k → v = l[j])) (fun i _ => l.length - (intOf i).toNat)
  case atStart =>
    exact ⟨0, Nat.zero_le _, rfl, (Below.refl _ _).alloc (Nat.le_refl _) _, by simp, fun j hj => by simp, fun j hj => ⟨_, zerosSn_at w _ _ j hj, fun x => by omega⟩⟩
  case round =>
    obtain ⟨k, hk, rfl, hb, hz, hf, hx⟩ := hrel
    have HB : Hid (Below w.heap.size w wr) := hb
    by_cases hlt : k < l.length
    · have HN := H.out.below hb
      clear hb
      rcases HN.2 with h0 | ⟨xb, xo, rfl, hc⟩
      · omega
      obtain ⟨p0, p1⟩ := hc k hlt
      clear hc HN
      have HX : Hid (∀ j (hj : j < l.length), ∃ v : Sn, SnAt wr w.heap.size (j * 2) v ∧ (j < k → v = l[j])) := hx
      have HF : Hid (∀ j, j < l.length * 2 → wr.frozen? ⟨w.heap.size, j, none⟩ = false) := hf
      clear hx hf
      have hlz : (k : Int) < (l.length : Int) := by omega
      obtain ⟨nd, hnd⟩ : ∃ nd : Sn, nd = l[k] := ⟨_, rfl⟩
      have HD : Hid (nd = l[k]) := hnd
      rw [← hnd] at p0 p1
      clear hnd
      go_wp2_with fail
      refine (toSeen _ _ _).mono ?_
      rintro e w1 ⟨rfl, hb1⟩
      have HB1 : Hid (Below wr.heap.size wr w1) := hb1
      obtain ⟨v, ⟨q0, q1⟩, _⟩ := HX.out k hlt
      have g0 : w1.frozen? ⟨w.heap.size, k * 2, none⟩ = false := by rw [hb1.frozen hz]; exact HF.out (k * 2) (by omega)
      have g1 : w1.frozen? ⟨w.heap.size, k * 2 + 1, none⟩ = false := by rw [hb1.frozen hz]; exact HF.out (k * 2 + 1) (by omega)
      rw [← hb1.cell hz] at q0 q1
      clear hb1 p0 p1
      go_wp2
      go_roundw
      case rel =>
        have F1 : Below w.heap.size w (setSn w1 w.heap.size (k * 2) nd) :=
          HB.out.trans ((setSn_kept (b := w.heap.size) (o := 0) (p := k * 2) (n := nd) (Kept.ofBelow HB1.out)).below (fun i hi => by obtain ⟨x, hx, rfl⟩ := hi; cases hx; exact Nat.le_refl _) HB.out.size)
        have F2 : w.heap.size < (setSn w1 w.heap.size (k * 2) nd).heap.size := by
          have := HB1.out.size
          rw [setSn_size]; omega
        have F3 : ∀ j, j < l.length * 2 → (setSn w1 w.heap.size (k * 2) nd).frozen? ⟨w.heap.size, j, none⟩ = false := by
          intro j hj
          rw [setSn_frozen, HB1.out.frozen hz]; exact HF.out j hj
        have F4 : ∀ j (hj : j < l.length), ∃ v : Sn, SnAt (setSn w1 w.heap.size (k * 2) nd) w.heap.size (j * 2) v ∧ (j < k + 1 → v = l[j]) := by
          intro j hj
          obtain ⟨u, r0, r1⟩ := HX.out j hj
          have r2 : SnAt w1 w.heap.size (j * 2) u := r0.below HB1.out hz
          by_cases e : j = k
          · subst e
            exact ⟨nd, setSn_same r2, fun _ => HD.out⟩
          · exact ⟨u, setSn_other r2 (by omega), fun x => r1 (by omega)⟩
        exact ⟨k + 1, by omega, by go_num, F1, F2, F3, F4⟩
      case measure => simp [intOf]; omega
    · go_wp2
      go_ret
      refine ⟨rfl, ⟨H.out.1, ?_⟩, HB.out⟩
      refine .inr ⟨w.heap.size, 0, rfl, Nat.le_refl _, fun i hi => ?_, fun j hj => by rw [Nat.zero_add]; exact hf j hj⟩
      obtain ⟨v, q0, q1⟩ := hx i hi
      rw [Nat.zero_add, ← q1 (by omega)]
      exact q0

set_option maxHeartbeats 1000000 in
theorem szSeen (k : ByteArray) (r : Int) (left : Int) (w : World) (h0 : 0 ≤ left) (h1 : left ≤ 1048576) (hk : k.size ≤ maxLen) :
    Calls Tryz.prog 124 #[.agg #[.string k, .int .i64 r], .int .i64 left] w fun e w' => e = .returned (.int .i64 (if (k.size : Int) ≤ left then left - k.size else -1)) ∧ Below w.heap.size w w' := by
  unfold maxLen at hk
  have HB : Hid (Below w.heap.size w (w.alloc (.cells #[.string k, .int .i64 r] 156))) := (Below.refl _ _).alloc (Nat.le_refl _) _
  by_cases h : (k.size : Int) ≤ left
  · have hn : ¬ left - (k.size : Int) < 0 := by omega
    rw [if_pos h]
    go_enter Tryz.func124, Tryz.ntmps124
    go_wp2
    go_ret
    exact ⟨rfl, HB.out⟩
  · have hn : left - (k.size : Int) < 0 := by omega
    rw [if_neg h]
    go_enter Tryz.func124, Tryz.ntmps124
    go_wp2
    go_ret
    exact ⟨rfl, HB.out⟩
set_option maxHeartbeats 1000000 in
theorem szSeenK (w : World) (a : Option Addr) (l : List Sn) (c : Nat) (left : Int) (h : Sns w a l) (h0 : 0 ≤ left) (h1 : left ≤ 1048576) (hk : ∀ x ∈ l, x.k.size ≤ maxLen) :
    Calls Tryz.prog 71 #[.slice a l.length c, .int .i64 left] w fun e w' => ∃ r : Int, e = .returned (.int .i64 r) ∧ -1 ≤ r ∧ r ≤ 1048576 ∧ (0 ≤ r → (l.length : Int) ≤ 1048576 ∧ ∀ x ∈ l, x.k.size ≤ 1048576) ∧ Below w.heap.size w w' := by
  have H : Hid (Sns w a l) := h
  have HK : Hid (∀ x ∈ l, x.k.size ≤ maxLen) := hk
  have hm := h.1
  unfold maxLen at hm
  clear h hk
  by_cases hc : (l.length : Int) ≤ left
  · have hn : ¬ left - (l.length : Int) < 0 := by omega
    go_enter Tryz.func71, Tryz.ntmps71
    go_wp2
    go_loopw [1, 5] (fun q i wr => ∃ (k : Nat) (r : Int), k ≤ l.length ∧ i = .int .i64 k ∧ q = .int .i64 r ∧ 0 ≤ r ∧ r ≤ 1048576 ∧ Below w.heap.size w wr ∧ ∀ j (hj : j < l.length), j < k → l[j].k.size ≤ 1048576) (fun _ i _ => l.length - (intOf i).toNat)
    case atStart => exact ⟨0, _, Nat.zero_le _, rfl, rfl, by omega, by omega, Below.refl _ _, fun j _ h => by omega⟩
    case round =>
      obtain ⟨k, r, hk, rfl, rfl, hr0, hr1, hb, hks⟩ := hrel
      have HKS : Hid (∀ j (hj : j < l.length), j < k → l[j].k.size ≤ 1048576) := hks
      clear hks
      have HB : Hid (Below w.heap.size w wr) := hb
      clear hb
      by_cases hlt : k < l.length
      · have hlz : (k : Int) < (l.length : Int) := by omega
        have HN := H.out.below HB.out
        rcases HN.2 with e0 | ⟨xb, xo, rfl, hc⟩
        · omega
        obtain ⟨p0, p1⟩ := hc k hlt
        have HX : Hid (l[k].k.size ≤ maxLen) := HK.out _ (List.getElem_mem hlt)
        clear hc HN
        have HLK : Hid (∀ y, y = l[k] → y.k.size ≤ 1048576 → ∀ j (hj : j < l.length), j < k + 1 → l[j].k.size ≤ 1048576) := fun y hy hyk j hj hjk => by
          by_cases e : j = k
          · subst e; rw [← hy]; exact hyk
          · exact HKS.out j hj (by omega)
        obtain ⟨x, hx⟩ : ∃ x, x = l[k] := ⟨_, rfl⟩
        rw [← hx] at p0 p1 HX HLK
        have HLX := HLK.out x rfl
        have HLX' : Hid (x.k.size ≤ 1048576 → ∀ j (hj : j < l.length), j < k + 1 → l[j].k.size ≤ 1048576) := HLX
        clear hx HLK HLX
        by_cases hq : (x.k.size : Int) ≤ r
        · have hq2 : ¬ r - (x.k.size : Int) < 0 := by omega
          have hq3 : r - (x.k.size : Int) ≤ 1048576 := by omega
          go_wp2_with (go_at_call 124; refine (szSeen x.k x.r r _ hr0 hr1 HX.out).mono ?_; rw [if_pos hq]; rintro e w1 ⟨rfl, hb1⟩; (have HB2 : Hid (Below w.heap.size w w1) := (by first | exact HB.out.trans (hb1.mono HB.out.size) | exact HB.out.drew.trans (hb1.mono HB.out.drew.size))); clear hb1)
          go_roundw
          case rel => exact ⟨k + 1, _, by omega, by go_num, rfl, by omega, by omega, HB2.out, HLX'.out (by omega)⟩
          case measure => simp [intOf]; omega
        · go_wp2_with (go_at_call 124; refine (szSeen x.k x.r r _ hr0 hr1 HX.out).mono ?_; rw [if_neg hq]; rintro e w1 ⟨rfl, hb1⟩; (have HB2 : Hid (Below w.heap.size w w1) := (by first | exact HB.out.trans (hb1.mono HB.out.size) | exact HB.out.drew.trans (hb1.mono HB.out.drew.size))); clear hb1)
          go_ret
          exact ⟨-1, rfl, by omega, by omega, fun h => by omega, HB2.out⟩
      · go_wp2
        go_ret
        exact ⟨r, rfl, by omega, hr1, fun _ => ⟨by omega, fun x hx => by
          obtain ⟨j, hj, rfl⟩ := List.getElem_of_mem hx
          exact HKS.out j hj (by omega)⟩, HB.out⟩
  · have hn : left - (l.length : Int) < 0 := by omega
    go_enter Tryz.func71, Tryz.ntmps71
    go_wp2
    go_ret
    exact ⟨-1, rfl, by omega, by omega, fun h => by omega, Below.refl _ _⟩

theorem szSeenS (w : World) (a : Option Addr) (l : List Sn) (c : Nat) (left : Int) (h : Sns w a l) (h0 : 0 ≤ left) (h1 : left ≤ 1048576) (hk : ∀ x ∈ l, x.k.size ≤ maxLen) :
    Calls Tryz.prog 71 #[.slice a l.length c, .int .i64 left] w fun e w' => ∃ r : Int, e = .returned (.int .i64 r) ∧ -1 ≤ r ∧ r ≤ 1048576 ∧ (0 ≤ r → (l.length : Int) ≤ 1048576) ∧ Below w.heap.size w w' :=
  (szSeenK w a l c left h h0 h1 hk).mono fun e w' k => by
    obtain ⟨r, h1, h2, h3, h4, h5⟩ := k
    exact ⟨r, h1, h2, h3, fun h => (h4 h).1, h5⟩

end Go.Proofs.YtmfpbhjmnadpkaaGreatDoor.Qc1
