/- The walks of Swaps and Rows, of the model and of the program. -/
import Derived.Test.YtdmogjhabladcaaGreatFr0
import Derived.Test.YtdmogjhabladcaaGreatQa2
import Derived.Test.YtdmogjhabladcaaGreatPkB
import Derived.Test.YtdmogjhabladcaaGreatPkN
import Derived.Test.YtdmogjhabladcaaGreatPkI
import Derived.Test.YtdmogjhabladcaaGreatPkJ
namespace Go.Proofs.YtdmogjhabladcaaGreat.Fm1
open Go.RowKit
open Nd0 Qa0 Fr0 Ap1
open Ws1 (ret_int ret_bool)
open Wd4 (iOne)
open Pg1 (iWidthOk)
open Sp2 (sIn)
set_option linter.unusedVariables false

theorem quAt {w : World} {a : Option Addr} {q : List Qu} (h : Qus w a q) {k : Nat} (hk : k < q.length) : ∃ b o, a = some ⟨b, o, none⟩ ∧ ∀ j, j < q.length → QuAt w b (o + j * 3) (qth q j) := by
  rcases h.2 with h0 | ⟨b, o, ha, hc⟩
  · omega
  · exact ⟨b, o, ha, fun j hj => by rw [← qth_get hj]; exact hc j hj⟩

theorem below_drewN {B : Nat} {u w : World} (h : Below B u w) (n : Nat) : Below B u (w.drewN n) := ⟨h.os, h.tape, h.output, h.size, h.block⟩

set_option maxHeartbeats 1000000 in
theorem sSwaps (w : World) (a : Option Addr) (q : List Qu) (c : Nat) (hN : Qus w a q) (hl : q.length ≤ 1048576) :
    Calls Tryz.prog 30 #[.slice a q.length c] w fun e w' => e = .returned (.int .i64 (swapsL q : Int)) ∧ Below w.heap.size w w' := by
  have HN : Hid (Qus w a q) := hN
  clear hN
  go_enter Tryz.func30, Tryz.ntmps30
  go_wp2
  go_loopw [3, 4] (fun n i wr => ∃ k : Nat, 1 ≤ k ∧ (k ≤ q.length ∨ k = 1) ∧ i = .int .i64 k ∧ n = .int .i64 (swTo q k : Int) ∧ Below w.heap.size w wr) (fun _ i _ => q.length - (intOf i).toNat)
  case atStart => exact ⟨1, Nat.le_refl _, .inr rfl, rfl, by rw [sw_one]; rfl, Below.refl _ _⟩
  case round =>
    obtain ⟨k, hk1, hk2, rfl, rfl, hb⟩ := hrel
    have HB : Hid (Below w.heap.size w wr) := hb
    clear hb
    by_cases hlt : k < q.length
    · have hlz : (k : Int) < (q.length : Int) := by omega
      obtain ⟨b, o, rfl, hc⟩ := quAt (HN.out.below HB.out) hlt
      have p0 := (hc k hlt).c0
      have p1 := (hc (k - 1) (by omega)).c0
      have e1 : IntKind.i64.wrap ((k : Int) - 1) = (k : Int) - 1 := by rw [IntKind.wrap_i64] <;> omega
      have e2 : ((k : Int) - 1).toNat = k - 1 := by omega
      have HS : Hid (swTo q (k + 1) = swTo q k + (if (qth q k).all != (qth q (k - 1)).all then 1 else 0)) := sw_next q hk1
      have hsb := swTo_le q k
      clear hc
      generalize swTo q k = s at HS hsb ⊢
      generalize (qth q k).all = x at p0 HS
      generalize (qth q (k - 1)).all = y at p1 HS
      have h0k : (1 : Int) ≤ (k : Int) := by omega
      cases x <;> cases y
      all_goals
        go_wp2_with fail
        go_quiet (fail)
        go_wp2
        go_roundw
        case rel => exact ⟨k + 1, by omega, .inl (by omega), by go_num, by rw [HS.out]; go_num, below_drewN HB.out _⟩
        case measure => simp [intOf]; omega
    · have HE : Hid (swTo q k = swapsL q) := by
        show _ = _
        unfold swapsL
        rcases hk2 with h | h
        · rw [show k = q.length by omega]
        · subst h
          have : q.length = 0 ∨ q.length = 1 := by omega
          rcases this with h | h <;> rw [h] <;> rfl
      go_wp2
      go_ret
      exact ⟨ret_int (by rw [HE.out]), HB.out⟩

set_option maxHeartbeats 1000000 in
theorem iSwaps (w : World) (a : Option Addr) (q : List Qu) (c : Nat) (hN : Qus w a q) (hl : q.length ≤ 1048576) :
    Calls Tryz.prog 29 #[.slice a q.length c] w fun e w' => e = .returned (.int .i64 (swapsL q : Int)) ∧ Below w.heap.size w w' := by
  have HN : Hid (Qus w a q) := hN
  clear hN
  go_enter Tryz.func29, Tryz.ntmps29
  go_wp2
  go_loopw [3, 4] (fun n i wr => ∃ k : Nat, 1 ≤ k ∧ (k ≤ q.length ∨ k = 1) ∧ i = .int .i64 k ∧ n = .int .i64 (swTo q k : Int) ∧ Below w.heap.size w wr) (fun _ i _ => q.length - (intOf i).toNat)
  case atStart => exact ⟨1, Nat.le_refl _, .inr rfl, rfl, by rw [sw_one]; rfl, Below.refl _ _⟩
  case round =>
    obtain ⟨k, hk1, hk2, rfl, rfl, hb⟩ := hrel
    have HB : Hid (Below w.heap.size w wr) := hb
    clear hb
    by_cases hlt : k < q.length
    · have hlz : (k : Int) < (q.length : Int) := by omega
      obtain ⟨b, o, rfl, hc⟩ := quAt (HN.out.below HB.out) hlt
      have p0 := (hc k hlt).c0
      have p1 := (hc (k - 1) (by omega)).c0
      have e1 : IntKind.i64.wrap ((k : Int) - 1) = (k : Int) - 1 := by rw [IntKind.wrap_i64] <;> omega
      have e2 : ((k : Int) - 1).toNat = k - 1 := by omega
      have HS : Hid (swTo q (k + 1) = swTo q k + (if (qth q k).all != (qth q (k - 1)).all then 1 else 0)) := sw_next q hk1
      have hsb := swTo_le q k
      clear hc
      generalize swTo q k = s at HS hsb ⊢
      generalize (qth q k).all = x at p0 HS
      generalize (qth q (k - 1)).all = y at p1 HS
      have h0k : (1 : Int) ≤ (k : Int) := by omega
      cases x <;> cases y
      all_goals
        go_wp2_with fail
        go_quiet ((go_at_call 70; exact Calls.quiet_of_same (iOne _ _)))
        go_wp2
        go_roundw
        case rel => exact ⟨k + 1, by omega, .inl (by omega), by go_num, by rw [HS.out]; go_num, below_drewN HB.out _⟩
        case measure => simp [intOf]; omega
    · have HE : Hid (swTo q k = swapsL q) := by
        show _ = _
        unfold swapsL
        rcases hk2 with h | h
        · rw [show k = q.length by omega]
        · subst h
          have : q.length = 0 ∨ q.length = 1 := by omega
          rcases this with h | h <;> rw [h] <;> rfl
      go_wp2
      go_ret
      exact ⟨ret_int (by rw [HE.out]), HB.out⟩

/-- How many bits they have; one too many where one has no width. -/
def bitsQ (q : List Qu) : Int := match bqTo q q.length with
  | none => 13
  | some n => (n : Int)
theorem bitsQ_few (q : List Qu) : fewB q = decide (bitsQ q ≤ 12) := by
  unfold fewB bitsQ
  cases bqTo q q.length with
  | none => rfl
  | some n => by_cases h : n ≤ 12
              · simp only [decide_eq_true h]; rw [decide_eq_true (by omega)]
              · simp only [decide_eq_false h]; rw [decide_eq_false (by omega)]

set_option maxHeartbeats 1000000 in
theorem sBitsQ (w : World) (a : Option Addr) (q : List Qu) (c : Nat) (hN : Qus w a q) (hl : q.length ≤ 1048576) :
    Calls Tryz.prog 76 #[.slice a q.length c] w fun e w' => e = .returned (.int .i64 (bitsQ q)) ∧ w' = w := by
  have HN : Hid (Qus w a q) := hN
  clear hN
  go_enter Tryz.func76, Tryz.ntmps76
  go_wp2
  go_loop [3, 4] (fun n i => ∃ k m : Nat, k ≤ q.length ∧ i = .int .i64 k ∧ bqTo q k = some m ∧ n = .int .i64 (m : Int)) (fun _ i => q.length - (intOf i).toNat)
  case atStart => exact ⟨0, 0, Nat.zero_le _, rfl, rfl, rfl⟩
  case round =>
    obtain ⟨k, m, hk, rfl, hm, rfl⟩ := hrel
    have HM : Hid (bqTo q k = some m) := hm
    have hmb := bq_le m hm
    clear hm
    by_cases hlt : k < q.length
    · have hlz : (k : Int) < (q.length : Int) := by omega
      obtain ⟨b, o, rfl, hc⟩ := quAt HN.out hlt
      have p2 := (hc k hlt).c2
      clear hc
      obtain ⟨x, hx⟩ : ∃ x, x = (qth q k).bits := ⟨_, rfl⟩
      rw [← hx] at p2
      have HX : Hid (x = (qth q k).bits) := hx
      clear hx
      by_cases hb : 1 ≤ x ∧ x ≤ 8
      · have hd : decide (1 ≤ x ∧ x ≤ 8) = true := decide_eq_true hb
        obtain ⟨hb1, hb2⟩ := hb
        go_wp2_with (go_at_call 44; refine (sIn _ _ _ _).mono ?_; rintro e w' ⟨rfl, rfl⟩; rw [hd])
        go_round
        case rel => exact ⟨k + 1, m + x.toNat, by omega, by go_num, by rw [bq_succ HM.out (by rw [← HX.out]; exact ⟨hb1, hb2⟩), HX.out], by go_num⟩
        case measure => simp [intOf]; omega
      · have hd : decide (1 ≤ x ∧ x ≤ 8) = false := decide_eq_false hb
        have HE : Hid (bitsQ q = 13) := by
          show _ = _
          unfold bitsQ
          rw [bq_none (bq_bad (by rw [← HX.out]; exact hb)) q.length (by omega)]
        clear hb
        go_wp2_with (go_at_call 44; refine (sIn _ _ _ _).mono ?_; rintro e w' ⟨rfl, rfl⟩; rw [hd])
        go_ret
        exact ⟨ret_int HE.out.symm, rfl⟩
    · have HE : Hid (bitsQ q = (m : Int)) := by
        show _ = _
        unfold bitsQ
        rw [← show k = q.length by omega, HM.out]
      go_wp2
      go_ret
      exact ⟨ret_int HE.out.symm, rfl⟩

set_option maxRecDepth 100000 in
set_option maxHeartbeats 2000000 in
theorem iRowOf (w : World) (a : Option Addr) (q : List Qu) (c : Nat) (hN : Qus w a q) (hl : q.length ≤ 1048576) :
    Calls Tryz.prog 65 #[.slice a q.length c] w fun e w' => (∃ a' c', e = .returned (.tuple #[.slice a' (rowsL q).length c', .bool (fewB q)]) ∧ WBools w' w.heap.size a' (rowsL q)) ∧ Below w.heap.size w w' := by
  have HN : Hid (Qus w a q) := hN
  clear hN
  have HAL : Hid (Below w.heap.size w (w.alloc (.cells #[] 4))) := (Below.refl _ _).alloc (Nat.le_refl _) _
  have HO0 : Hid (Owb (w.alloc (.cells #[] 4)) w.heap.size (.slice (some ⟨w.heap.size, 0, none⟩) 0 0) []) := Owb.lit w _ (Nat.le_refl _)
  have HNO : Hid (fewB q = false → ∀ (g : Nat) (W : World), Below w.heap.size w W → (∃ a' c', Ending.returned (.tuple #[.slice (some ⟨g, 0, none⟩) 0 0, .bool false]) = .returned (.tuple #[.slice a' (rowsL q).length c', .bool (fewB q)]) ∧ WBools (W.alloc (.cells #[] 4)) w.heap.size a' (rowsL q)) ∧ Below w.heap.size w (W.alloc (.cells #[] 4))) := fun hf g W hW => by
    have e1 : rowsL q = [] := by unfold rowsL; rw [hf]; rfl
    rw [e1, hf]
    exact ⟨⟨_, _, rfl, Nat.zero_le _, .inl rfl⟩, hW.alloc hW.size _⟩
  go_enter Tryz.func65, Tryz.ntmps65
  go_wp2
  go_loopw [4, 10] (fun v i wr => ∃ k m : Nat, k ≤ q.length ∧ i = .int .i64 k ∧ bqTo q k = some m ∧ m ≤ 12 ∧ Owb wr w.heap.size v (rowTo q k) ∧ Below w.heap.size w wr) (fun _ i _ => q.length - (intOf i).toNat)
  case atStart => exact ⟨0, 0, Nat.zero_le _, rfl, rfl, Nat.zero_le _, HO0.out, HAL.out⟩
  case round =>
    obtain ⟨k, m, hk, rfl, hm, hm12, ho, hb⟩ := hrel
    have HO : Hid (Owb wr w.heap.size u4 (rowTo q k)) := ho
    have HB : Hid (Below w.heap.size w wr) := hb
    have HM : Hid (bqTo q k = some m) := hm
    have hrl := rowTo_length m hm
    have hbs0 : w.heap.size ≤ wr.heap.size := hb.size
    obtain ⟨av, cv, hv, _⟩ := ho.form
    rw [hrl] at hv
    subst hv
    clear ho hm
    by_cases hlt : k < q.length
    · have hlz : (k : Int) < (q.length : Int) := by omega
      obtain ⟨b, o, rfl, hc⟩ := quAt (HN.out.below hb) hlt
      obtain ⟨p0, p1, p2⟩ := hc k hlt
      clear hc hb
      have HR1 : Hid (rowTo q (k + 1) = rowTo q k ++ List.replicate (qth q k).bits.toNat (qth q k).all) := rfl
      have HRP : Hid (∀ j, rowTo q k ++ List.replicate (j + 1) (qth q k).all = (rowTo q k ++ List.replicate j (qth q k).all) ++ [(qth q k).all]) := rowTo_part q k
      have HBAD : Hid (¬ (1 ≤ (qth q k).bits ∧ (qth q k).bits ≤ 8) → fewB q = false) := fun h => few_bad (k := k + 1) (by omega) (bq_bad h)
      have HSUC : Hid (1 ≤ (qth q k).bits ∧ (qth q k).bits ≤ 8 → bqTo q (k + 1) = some (m + (qth q k).bits.toNat)) := fun h => bq_succ HM.out h
      have HMUCH : Hid (1 ≤ (qth q k).bits ∧ (qth q k).bits ≤ 8 → 12 < m + (qth q k).bits.toNat → fewB q = false) := fun h h2 => few_much (k := k + 1) (by omega) (bq_succ HM.out h) h2
      generalize rowTo q k = R at HO HR1 HRP hrl
      generalize (qth q k).all = al at HR1 HRP p0
      generalize (qth q k).bits = bt at HR1 HBAD HSUC HMUCH p2
      generalize (qth q k).vr = vr at p1
      have HBX : Hid (Below w.heap.size w (wr.alloc (.cells #[.bool al, .int .i64 vr, .int .i64 bt] 51))) := HB.out.alloc hbs0 _
      by_cases hbt : 1 ≤ bt ∧ bt ≤ 8
      · have hd : decide (1 ≤ bt ∧ bt ≤ 8) = true := decide_eq_true hbt
        obtain ⟨hb1, hb2⟩ := hbt
        by_cases hmu : 12 < (m : Int) + bt
        · have HF : Hid (fewB q = false) := HMUCH.out ⟨hb1, hb2⟩ (by omega)
          go_wp2_with (go_at_call 93; refine (iWidthOk _ _).mono ?_; rintro e w' ⟨rfl, rfl⟩; rw [hd])
          go_ret2
          exact HNO.out HF.out _ _ HBX.out
        · have HS : Hid (bqTo q (k + 1) = some (m + bt.toNat)) := HSUC.out ⟨hb1, hb2⟩
          have hmu2 : (m : Int) + bt ≤ 12 := by omega
          have HOX : Hid (Owb (wr.alloc (.cells #[.bool al, .int .i64 vr, .int .i64 bt] 51)) w.heap.size (.slice av m cv) R) := HO.out.kept (S := fun _ => False) ((Kept.refl _ _).alloc _) (fun _ _ h => h)
          have HNE : Hid ((Value.slice av m cv).ownBlock ≠ some wr.heap.size) := fun h => by have := (HO.out.lt _ h).2; omega
          obtain ⟨G, hG⟩ : ∃ G, G = wr.heap.size := ⟨_, rfl⟩
          have HG : Hid (G = wr.heap.size) := hG
          have HCX : Hid ((wr.alloc (.cells #[.bool al, .int .i64 vr, .int .i64 bt] 51)).cell? ⟨G, 0, none⟩ = some (.bool al) ∧ G < (wr.alloc (.cells #[.bool al, .int .i64 vr, .int .i64 bt] 51)).heap.size) := by
            rw [hG]
            exact ⟨by rw [World.cell?_alloc_new]; rfl, by simp⟩
          clear hG HBAD HMUCH HSUC
          go_wp2_with (go_at_call 93; refine (iWidthOk _ _).mono ?_; rintro e w' ⟨rfl, rfl⟩; rw [hd])
          rw [← HG.out]
          go_loopw [4, 29] (fun v i wi => ∃ j : Nat, (j : Int) ≤ bt ∧ i = .int .i64 j ∧ Owb wi w.heap.size v (R ++ List.replicate j al) ∧ Below w.heap.size w wi ∧ wi.cell? ⟨G, 0, none⟩ = some (.bool al) ∧ G < wi.heap.size ∧ v.ownBlock ≠ some G) (fun _ i _ => bt.toNat - (intOf i).toNat)
          case atStart => exact ⟨0, by omega, rfl, by rw [List.replicate_zero, List.append_nil]; exact HOX.out, HBX.out, HCX.out.1, HCX.out.2, by rw [HG.out]; exact HNE.out⟩
          case round =>
            obtain ⟨j, hj, rfl, ho, hb, hcx, hgx, hne⟩ := hrel
            have HOI : Hid (Owb wr w.heap.size u4 (R ++ List.replicate j al)) := ho
            have HBI : Hid (Below w.heap.size w wr) := hb
            have HCI : Hid (wr.cell? ⟨G, 0, none⟩ = some (.bool al)) := hcx
            have HNI : Hid (u4.ownBlock ≠ some G) := hne
            have hbs : w.heap.size ≤ wr.heap.size := hb.size
            clear ho hb hne
            have HLN : Hid ((R ++ List.replicate j al).length = m + j) := by
              show _ = _
              rw [List.length_append, List.length_replicate, hrl]
            have HRJ : Hid (R ++ List.replicate (j + 1) al = (R ++ List.replicate j al) ++ [al]) := HRP.out j
            by_cases hjl : (j : Int) < bt
            · generalize R ++ List.replicate j al = L at HOI HLN HRJ
              go_wp2_with (at_builtin; go_must (refine app_bool _ rfl _ _ rfl w.heap.size u4 L al rfl rfl HOI.out hbs (by rw [HLN.out]; omega) ?_; intro g5 cp5 w5 ho5 hk5 hg5; have HO5 : Hid (Owb w5 w.heap.size (.slice (some ⟨g5, 0, none⟩) (L.length + 1) cp5) (L ++ [al])) := ho5; have HB5 : Hid (Below w.heap.size w w5) := HBI.out.trans (hk5.below (fun b hb => (HOI.out.lt b hb).1) hbs); have HC5 : Hid (w5.cell? ⟨G, 0, none⟩ = some (.bool al)) := (hk5.cell (p := ⟨G, 0, none⟩) hgx HNI.out).trans HCI.out; have hs5 := hk5.size; have hn5 : g5 ≠ G := (fun h => by subst h; rcases hg5 with h1 | h1; exact HNI.out h1; omega); clear ho5 hk5 hg5))
              go_roundw
              case rel => exact ⟨j + 1, by omega, by go_num, by rw [HRJ.out]; exact HO5.out, HB5.out, HC5.out, by omega, fun h => hn5 (by simpa [Value.ownBlock] using h)⟩
              case measure => simp [intOf]; omega
            · have HJ : Hid (rowTo q (k + 1) = R ++ List.replicate j al) := by
                show _ = _
                rw [HR1.out, show bt.toNat = j by omega]
              go_wp2
              go_roundw
              case rel => exact ⟨k + 1, m + bt.toNat, by omega, by go_num, HS.out, by omega, by rw [HJ.out]; exact HOI.out, HBI.out⟩
              case measure => simp [intOf]; omega
      · have hd : decide (1 ≤ bt ∧ bt ≤ 8) = false := decide_eq_false hbt
        have HF : Hid (fewB q = false) := HBAD.out hbt
        clear hbt
        go_wp2_with (go_at_call 93; refine (iWidthOk _ _).mono ?_; rintro e w' ⟨rfl, rfl⟩; rw [hd])
        go_ret2
        exact HNO.out HF.out _ _ HBX.out
    · have HK : Hid (k = q.length) := by show _ = _; omega
      have HF : Hid (fewB q = true) := few_yes (n := m) (by rw [← HK.out]; exact HM.out) hm12
      have HE : Hid (rowsL q = rowTo q k) := by
        show _ = _
        unfold rowsL; rw [HF.out, HK.out]; rfl
      have HI : Hid (∃ a' c', Ending.returned (.tuple #[.slice av m cv, .bool true]) = .returned (.tuple #[.slice a' (rowsL q).length c', .bool (fewB q)]) ∧ WBools wr w.heap.size a' (rowsL q)) := by
        obtain ⟨av', cv', hv', hw'⟩ := HO.out.form
        rw [HE.out, HF.out]
        exact ⟨av', cv', by rw [hv'], hw'⟩
      clear hb
      go_wp2
      go_ret2
      exact ⟨HI.out, HB.out⟩

set_option maxHeartbeats 1000000 in
theorem iRows (w : World) (a : Option Addr) (q : List Qu) (c : Nat) (hN : Qus w a q) (hl : q.length ≤ 1048576) :
    Calls Tryz.prog 25 #[.slice a q.length c] w fun e w' => (∃ a' c', e = .returned (.slice a' (rowsL q).length c') ∧ WBools w' w.heap.size a' (rowsL q)) ∧ Below w.heap.size w w' := by
  have HN : Hid (Qus w a q) := hN
  clear hN
  go_enter Tryz.func25, Tryz.ntmps25
  go_wp2_with fail
  refine (iRowOf _ a q c HN.out hl).mono ?_
  rintro e w1 ⟨⟨a1, c1, rfl, h1⟩, hb1⟩
  have H1 : Hid (WBools w1 w.heap.size a1 (rowsL q)) := h1
  have HB1 : Hid (Below w.heap.size w w1) := hb1
  clear h1 hb1
  go_wp2
  go_ret
  exact ⟨⟨_, _, rfl, H1.out⟩, HB1.out⟩

end Go.Proofs.YtdmogjhabladcaaGreat.Fm1
