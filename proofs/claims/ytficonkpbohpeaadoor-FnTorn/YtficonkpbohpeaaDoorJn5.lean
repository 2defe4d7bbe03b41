/- The model's reader of records: one record. -/
import Derived.Test.YtficonkpbohpeaaDoorJn0
namespace Go.Proofs.YtficonkpbohpeaaDoor.Jn5
open Go.RowKit
open Tx0 Zk0 Jn0
open Ws1 (sIn)
open Ss0 (bs bs_size bs_ext)
open Ss1 (tl tl_bs bs_tl tl_length tl_ext tl_take tl_get numI sNum)
set_option linter.unusedVariables false

theorem recN_nocolon {l : List UInt8} (h : ∀ c ∈ l, c ≠ 58) : recN l = none := by
  have e : cutS 58 l = [] := by
    unfold cutS
    have : l.dropWhile (fun x => x != 58) = [] := by
      have := List.dropWhile_append_of_pos (p := fun x => x != 58) (l₁ := l) (l₂ := []) (fun x hx => by simpa using h x hx)
      rw [List.append_nil] at this
      rw [this]; rfl
    rw [this]; rfl
  unfold recN
  rw [e]
  split
  · rfl
  · simp
theorem recN_long {l : List UInt8} (h : 7 ≤ (cutF 58 l).length) : recN l = none := by
  unfold recN
  split
  · rfl
  · rename_i n hn
    rw [if_neg]
    intro hc
    have hd := (num_some hn).1
    have := (dec_len' (n := n) (k := 6) (by omega) (by omega)).2
    rw [hd] at this
    omega
theorem cutF_ge {c : UInt8} {d r : List UInt8} (h : ∀ x ∈ d, x ≠ c) : d.length ≤ (cutF c (d ++ r)).length := by
  unfold cutF
  rw [List.takeWhile_append_of_pos (fun x hx => by simpa using h x hx), List.length_append]
  omega
theorem recN_no {l d r : List UInt8} (hl : l = d ++ 58 :: r) (hd : ∀ x ∈ d, x ≠ 58) (h : ∀ n : Nat, numI d = (n : Int) → n ≤ 400000 → r[n]? ≠ some 59) : recN l = none := by
  obtain ⟨h1, h2⟩ := cut_app 58 d r hd
  unfold recN
  rw [hl, h1, h2]
  split
  · rfl
  · rename_i n hn
    rw [if_neg]
    intro hc
    exact h n (by unfold numI; rw [hn]) hc.1 hc.2
theorem recN_ok {l d r : List UInt8} (hl : l = d ++ 58 :: r) (hd : ∀ x ∈ d, x ≠ 58) {n : Nat} (hn : numI d = (n : Int)) (h4 : n ≤ 400000) (h5 : r[n]? = some 59) : recN l = some (r.take n, d.length + n + 2) := by
  obtain ⟨h1, h2⟩ := cut_app 58 d r hd
  have hx : numL d = some n := by
    unfold numI at hn
    split at hn
    · rename_i m hm
      rw [hm]; congr 1; omega
    · omega
  unfold recN
  rw [hl, h1, h2, hx]
  simp only
  rw [if_pos ⟨h4, h5⟩]

/-- What the model's reader tells of the record at byte p. -/
def NsP (S : ByteArray) (p : Nat) (e : Ending) : Prop :=
  (recN ((tl S).drop p) = none → e = .returned (.tuple #[.string ⟨#[]⟩, .int .i64 (-1)])) ∧
  (∀ s k, recN ((tl S).drop p) = some (s, k) → e = .returned (.tuple #[.string (bs s), .int .i64 ((p + k : Nat) : Int)]))
theorem NsP.no {S : ByteArray} {p : Nat} (h : recN ((tl S).drop p) = none) : NsP S p (.returned (.tuple #[.string ⟨#[]⟩, .int .i64 (-1)])) :=
  ⟨fun _ => rfl, fun s k e => (by rw [h] at e; cases e)⟩
theorem NsP.yes {S : ByteArray} {p : Nat} {s : List UInt8} {k : Nat} (h : recN ((tl S).drop p) = some (s, k)) {T : ByteArray} {x : Int} (hT : T = bs s) (hx : x = ((p + k : Nat) : Int)) : NsP S p (.returned (.tuple #[.string T, .int .i64 x])) :=
  ⟨(fun e => by rw [h] at e; cases e), fun s' k' e => (by rw [h] at e; cases e; rw [hT, hx])⟩

set_option maxRecDepth 100000 in
set_option maxHeartbeats 4000000 in
theorem sNext (w : World) (S : ByteArray) (p : Nat) (hs : S.size ≤ 100000000) (hp : p ≤ S.size) :
    Calls Tryd.prog 31 #[.string S, .int .i64 p] w fun e w' => NsP S p e ∧ w' = w := by
  have HLEN : Hid ((tl S).length = S.size) := tl_length S
  go_enter Tryd.func31, Tryd.ntmps31
  go_wp2
  go_loop [6] (fun i => ∃ k : Nat, p ≤ k ∧ k ≤ S.size ∧ k ≤ p + 7 ∧ i = .int .i64 k ∧ ∀ c ∈ ((tl S).take k).drop p, c ≠ 58) (fun i => S.size - (intOf i).toNat)
  case atStart => exact ⟨p, Nat.le_refl _, hp, by omega, rfl, fun c hc => by
    rw [List.drop_eq_nil_of_le (by rw [List.length_take]; omega)] at hc; cases hc⟩
  case round =>
    obtain ⟨k, hpk, hk, hk7, rfl, ha⟩ := hrel
    obtain ⟨d, hd⟩ : ∃ d, d = ((tl S).take k).drop p := ⟨_, rfl⟩
    have HD : Hid (d = ((tl S).take k).drop p) := hd
    have hdl : d.length = k - p := by rw [hd, List.length_drop, List.length_take, HLEN.out]; omega
    have HDL : Hid (d.length = k - p) := hdl
    have HSP : Hid ((tl S).drop p = d ++ (tl S).drop k) := by
      show _ = _
      conv => lhs; rw [← List.take_append_drop k (tl S), List.drop_append_of_le_length (by rw [List.length_take, HLEN.out]; omega)]
      rw [hd]
    rw [← hd] at ha
    have HA : Hid (∀ c ∈ d, c ≠ 58) := ha
    clear hd hdl ha
    by_cases hlt : k < S.size
    · have hlz : (k : Int) < (S.size : Int) := by omega
      have hlz2 : ¬ (S.size : Int) ≤ (k : Int) := by omega
      have HC : Hid ((tl S).drop k = S[k] :: (tl S).drop (k + 1)) := by
        show _ = _
        rw [List.drop_eq_getElem_cons (by rw [HLEN.out]; exact hlt)]
        rfl
      by_cases h8 : S[k] = 58
      · have b8 : ((S[k].toNat : Int) != 58) = false := by rw [h8]; rfl
        obtain ⟨r, hr⟩ : ∃ r, r = (tl S).drop (k + 1) := ⟨_, rfl⟩
        have HL : Hid ((tl S).drop p = d ++ 58 :: r) := by show _ = _; rw [HSP.out, HC.out, h8, hr]
        have hrl : r.length = S.size - k - 1 := by rw [hr, List.length_drop, HLEN.out]; omega
        have HRL : Hid (r.length = S.size - k - 1) := hrl
        have HR : Hid (r = (tl S).drop (k + 1)) := hr
        have hx7 : (S.extract p k).size ≤ 100000 := by rw [ByteArray.size_extract]; omega
        have HX : Hid (tl (S.extract p k) = d) := by show _ = _; rw [tl_ext, HD.out]
        have HNU : Hid (Calls Tryd.prog 40 #[.string (S.extract p k)] w fun e w' => e = .returned (.int .i64 (numI d)) ∧ w' = w) := by
          show Calls _ _ _ _ _
          have := sNum (S.extract p k) w hx7
          rw [HX.out] at this
          exact this
        obtain ⟨x, hx⟩ : ∃ x, x = numI d := ⟨_, rfl⟩
        have HNX : Hid (numI d = x) := hx.symm
        have hxr : -1 ≤ x ∧ x ≤ 1000000000 := by rw [hx]; exact Ss1.num_range d
        obtain ⟨hx1, hx2⟩ := hxr
        rw [← hx] at HNU
        have HIN : Hid (Calls Tryd.prog 41 #[.int .i64 x, .int .i64 0, .int .i64 400000] w fun e w' => e = .returned (.bool (decide (0 ≤ x ∧ x ≤ 400000))) ∧ w' = w) := sIn x 0 400000 w
        have hpz : (p : Int) ≤ (k : Int) := by omega
        have hkz : (k : Int) ≤ (S.size : Int) := by omega
        clear h8 hr hx hrl hx7
        have go7 : (k : Int) < (p : Int) + 7 ∨ ¬ (k : Int) < (p : Int) + 7 := by omega
        by_cases hin : 0 ≤ x ∧ x ≤ 400000
        · rw [decide_eq_true hin] at HIN
          obtain ⟨n, rfl⟩ : ∃ n : Nat, x = (n : Int) := ⟨x.toNat, by omega⟩
          have hn4 : n ≤ 400000 := by omega
          by_cases hb : (S.size : Int) - (k : Int) - 2 < (n : Int)
          · have HF : Hid (recN ((tl S).drop p) = none) := by
              show _ = _
              refine recN_no HL.out HA.out (fun m hm _ => ?_)
              rw [HNX.out] at hm
              have : m = n := by omega
              subst this
              rw [List.getElem?_eq_none (by have := HRL.out; omega)]
              simp
            rcases go7 with g7 | g7
            · go_wp2_with (first | (go_at_call 40; refine Calls.mono HNU.out ?_; rintro e w1 ⟨rfl, rfl⟩) | (go_at_call 41; refine Calls.mono HIN.out ?_; rintro e w1 ⟨rfl, rfl⟩))
              go_ret2
              exact ⟨NsP.no HF.out, rfl⟩
            · go_wp2_with (first | (go_at_call 40; refine Calls.mono HNU.out ?_; rintro e w1 ⟨rfl, rfl⟩) | (go_at_call 41; refine Calls.mono HIN.out ?_; rintro e w1 ⟨rfl, rfl⟩))
              go_ret2
              exact ⟨NsP.no HF.out, rfl⟩
          · have hq : k + 1 + n < S.size := by omega
            have HG : Hid (r[n]? = some S[k + 1 + n]) := by
              show _ = _
              rw [HR.out, List.getElem?_drop, List.getElem?_eq_getElem (by rw [HLEN.out]; exact hq)]
              rfl
            have hw1 : wrap64 ((k : Int) + 1 + (n : Int)) = ((k + 1 + n : Nat) : Int) := by unfold wrap64; omega
            by_cases h9 : S[k + 1 + n] = 59
            · have b9 : ((S[k + 1 + n].toNat : Int) != 59) = false := by rw [h9]; rfl
              have HF : Hid (recN ((tl S).drop p) = some (r.take n, d.length + n + 2)) := recN_ok HL.out HA.out HNX.out hn4 (by rw [HG.out, h9])
              have HE : Hid (S.extract (k + 1) (k + 1 + n) = bs (r.take n)) := by
                show _ = _
                rw [← bs_tl (S.extract (k + 1) (k + 1 + n)), tl_ext, HR.out, List.take_drop]
              clear h9
              rcases go7 with g7 | g7
              · go_wp2_with (first | (go_at_call 40; refine Calls.mono HNU.out ?_; rintro e w1 ⟨rfl, rfl⟩) | (go_at_call 41; refine Calls.mono HIN.out ?_; rintro e w1 ⟨rfl, rfl⟩))
                go_ret2
                exact ⟨NsP.yes HF.out HE.out (by have := HDL.out; omega), rfl⟩
              · go_wp2_with (first | (go_at_call 40; refine Calls.mono HNU.out ?_; rintro e w1 ⟨rfl, rfl⟩) | (go_at_call 41; refine Calls.mono HIN.out ?_; rintro e w1 ⟨rfl, rfl⟩))
                go_ret2
                exact ⟨NsP.yes HF.out HE.out (by have := HDL.out; omega), rfl⟩
            · have b9 : ((S[k + 1 + n].toNat : Int) != 59) = true := bne_iff_ne.2 fun e => h9 (UInt8.toNat_inj.1 (by have : (59 : UInt8).toNat = 59 := rfl; omega))
              have HF : Hid (recN ((tl S).drop p) = none) := by
                show _ = _
                refine recN_no HL.out HA.out (fun m hm _ => ?_)
                rw [HNX.out] at hm
                have : m = n := by omega
                subst this
                rw [HG.out]
                intro e
                exact h9 (Option.some.inj e)
              clear h9
              rcases go7 with g7 | g7
              · go_wp2_with (first | (go_at_call 40; refine Calls.mono HNU.out ?_; rintro e w1 ⟨rfl, rfl⟩) | (go_at_call 41; refine Calls.mono HIN.out ?_; rintro e w1 ⟨rfl, rfl⟩))
                go_ret2
                exact ⟨NsP.no HF.out, rfl⟩
              · go_wp2_with (first | (go_at_call 40; refine Calls.mono HNU.out ?_; rintro e w1 ⟨rfl, rfl⟩) | (go_at_call 41; refine Calls.mono HIN.out ?_; rintro e w1 ⟨rfl, rfl⟩))
                go_ret2
                exact ⟨NsP.no HF.out, rfl⟩
        · rw [decide_eq_false hin] at HIN
          have HF : Hid (recN ((tl S).drop p) = none) := by
            show _ = _
            refine recN_no HL.out HA.out (fun m hm h4 => ?_)
            rw [HNX.out] at hm
            omega
          clear hin
          rcases go7 with g7 | g7
          · go_wp2_with (first | (go_at_call 40; refine Calls.mono HNU.out ?_; rintro e w1 ⟨rfl, rfl⟩) | (go_at_call 41; refine Calls.mono HIN.out ?_; rintro e w1 ⟨rfl, rfl⟩))
            go_ret2
            exact ⟨NsP.no HF.out, rfl⟩
          · go_wp2_with (first | (go_at_call 40; refine Calls.mono HNU.out ?_; rintro e w1 ⟨rfl, rfl⟩) | (go_at_call 41; refine Calls.mono HIN.out ?_; rintro e w1 ⟨rfl, rfl⟩))
            go_ret2
            exact ⟨NsP.no HF.out, rfl⟩
      · have b8 : ((S[k].toNat : Int) != 58) = true := bne_iff_ne.2 fun e => h8 (UInt8.toNat_inj.1 (by have : (58 : UInt8).toNat = 58 := rfl; omega))
        by_cases g7 : (k : Int) < (p : Int) + 7
        · have HT : Hid (((tl S).take (k + 1)).drop p = d ++ [S[k]]) := by
            show _ = _
            rw [tl_take S k hlt, List.drop_append_of_le_length (by rw [List.length_take, HLEN.out]; omega), HD.out]
          have H8 : Hid (S[k] ≠ 58) := h8
          clear h8
          go_wp2
          go_round
          case rel =>
            refine ⟨k + 1, by omega, by omega, by omega, by go_num, ?_⟩
            rw [HT.out]
            intro c hc
            rcases List.mem_append.1 hc with e | e
            · exact HA.out c e
            · have : c = S[k] := by simpa using e
              rw [this]; exact H8.out
          case measure => simp [intOf]; omega
        · have HF : Hid (recN ((tl S).drop p) = none) := by
            show _ = _
            refine recN_long ?_
            rw [HSP.out]
            have := cutF_ge (c := 58) (r := (tl S).drop k) HA.out
            have := HDL.out
            omega
          clear h8
          go_wp2
          go_ret2
          exact ⟨NsP.no HF.out, rfl⟩
    · have hlz : ¬ (k : Int) < (S.size : Int) := by omega
      have hlz2 : (S.size : Int) ≤ (k : Int) := by omega
      have HF : Hid (recN ((tl S).drop p) = none) := by
        show _ = _
        refine recN_nocolon ?_
        rw [HSP.out, List.drop_of_length_le (by rw [HLEN.out]; omega), List.append_nil]
        exact HA.out
      go_wp2
      go_ret2
      exact ⟨NsP.no HF.out, rfl⟩
end Go.Proofs.YtficonkpbohpeaaDoor.Jn5
