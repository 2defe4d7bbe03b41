/- Small texts of mine, one behind the other. -/
import Derived.Test.YteplffphkakliaaTd3
import Derived.Test.YteplffphkakliaaTa2
import Derived.Test.YteplffphkakliaaAp0
/- The model's functions over tables: half, at. -/
namespace Go.Proofs.Yteplffphkakliaa.Td4
open Go.RowKit
open Ta0 Ta1 Ta2 Tc2 Tc5 Ap9 Td1 Td2
open Nd0 (Kept Ints set_other set_same lt_of_cell)
open Ss0 (bs bs_size ret_str bs_ext)
open Ss1 (tl tl_length tl_get tl_take bs_tl tl_bs tl_inj eqb)
set_option linter.unusedVariables false

set_option maxHeartbeats 2000000 in
theorem sHalf0 {N b : Int} {S : ByteArray} (w : World) (hS : S.size ≤ 1048576) (h : ¬ (tokB N (tl S) = true ∧ N ≠ 0 ∧ bitB b = true)) :
    Calls Try.prog 61 #[tv N S, .int .i64 b] w fun e w' => e = .returned (.tuple #[tv 0 ByteArray.empty, .bool false]) ∧ Below w.heap.size w w' := by
  have HA : Hid (Below w.heap.size w ((w.alloc (.cells #[.int .i64 N, .string S] 26)).alloc (.cells #[.int .i64 0, .string ByteArray.empty] 26))) := ((Below.refl _ _).alloc (Nat.le_refl _) _).alloc (by simp) _
  have HX : Hid (Lay ((w.alloc (.cells #[.int .i64 N, .string S] 26)).alloc (.cells #[.int .i64 0, .string ByteArray.empty] 26)) w.heap.size (.int .i64 N) (.string S)) := (Lay.made _ _ _ _).alloc _
  have HR : Hid (Lay ((w.alloc (.cells #[.int .i64 N, .string S] 26)).alloc (.cells #[.int .i64 0, .string ByteArray.empty] 26)) (w.heap.size + 1) (.int .i64 0) (.string ByteArray.empty)) := by
    have := Lay.made (w.alloc (.cells #[.int .i64 N, .string S] 26)) (.int .i64 0) (.string ByteArray.empty) 26
    show Lay _ _ _ _
    simpa using this
  cases h1 : tokB N (tl S)
  · have HO : Hid (∀ W, Calls Try.prog 74 #[tv N S] W fun e w' => e = .returned (.bool false) ∧ Below W.heap.size W w') := fun W => sOk0 W hS h1
    clear h h1
    go_enter Try.func61, Try.ntmps61
    go_wp2_with fail
    refine (HO.out _).mono ?_
    rintro e w1 ⟨rfl, hb⟩
    have HA1 : Hid (Below w.heap.size w w1) := HA.out.trans (hb.mono HA.out.size)
    have HR1 : Hid (Lay w1 (w.heap.size + 1) (.int .i64 0) (.string ByteArray.empty)) := HR.out.below hb
    clear hb
    obtain ⟨r0, r1, r2, r3⟩ := HR1.out
    have HFN : Hid _ := finT HR1.out HA1.out (by omega) (.int .i64 0) (.string ⟨#[]⟩)
    go_wp2
    obtain ⟨W, hW, hz, hbz⟩ := HFN.out
    rw [← hW]
    obtain ⟨z0, z1, _, _⟩ := hz
    exact bodyPost_ret (v := .tuple #[tv 0 ⟨#[]⟩, .bool false]) (by simp [results, Try.results61, go_sem, z0, z1]) rfl ⟨rfl, hbz⟩
  have HO : Hid (∀ W, Calls Try.prog 74 #[tv N S] W fun e w' => e = .returned (.bool true) ∧ Below W.heap.size W w') := fun W => by
    have := sTableOk N S W hS
    rwa [h1] at this
  by_cases hN : N = 0
  · have hNb : (N == 0) = true := by rw [hN]; rfl
    clear h h1 hN
    go_enter Try.func61, Try.ntmps61
    go_wp2_with fail
    refine (HO.out _).mono ?_
    rintro e w1 ⟨rfl, hb⟩
    have HA1 : Hid (Below w.heap.size w w1) := HA.out.trans (hb.mono HA.out.size)
    have HR1 : Hid (Lay w1 (w.heap.size + 1) (.int .i64 0) (.string ByteArray.empty)) := HR.out.below hb
    obtain ⟨x0, x1, _, _⟩ := HX.out.below hb
    clear hb
    obtain ⟨r0, r1, r2, r3⟩ := HR1.out
    have HFN : Hid _ := finT HR1.out HA1.out (by omega) (.int .i64 0) (.string ⟨#[]⟩)
    go_wp2
    obtain ⟨W, hW, hz, hbz⟩ := HFN.out
    rw [← hW]
    obtain ⟨z0, z1, _, _⟩ := hz
    exact bodyPost_ret (v := .tuple #[tv 0 ⟨#[]⟩, .bool false]) (by simp [results, Try.results61, go_sem, z0, z1]) rfl ⟨rfl, hbz⟩
  · have hNb : (N == 0) = false := beq_eq_false_iff_ne.2 hN
    have HI : Hid (∀ W, Calls Try.prog 62 #[.int .i64 b, .int .i64 0, .int .i64 1] W fun e w' => e = .returned (.bool false) ∧ w' = W) := fun W => sInF W (fun k => h ⟨h1, hN, decide_eq_true (by omega)⟩)
    clear h h1 hN
    go_enter Try.func61, Try.ntmps61
    go_wp2_with fail
    refine (HO.out _).mono ?_
    rintro e w1 ⟨rfl, hb⟩
    have HA1 : Hid (Below w.heap.size w w1) := HA.out.trans (hb.mono HA.out.size)
    have HR1 : Hid (Lay w1 (w.heap.size + 1) (.int .i64 0) (.string ByteArray.empty)) := HR.out.below hb
    obtain ⟨x0, x1, _, _⟩ := HX.out.below hb
    clear hb
    obtain ⟨r0, r1, r2, r3⟩ := HR1.out
    have HFN : Hid _ := finT HR1.out HA1.out (by omega) (.int .i64 0) (.string ⟨#[]⟩)
    go_wp2_with (go_at_call 62; refine (HI.out _).mono ?_; rintro e w' ⟨rfl, rfl⟩)
    obtain ⟨W, hW, hz, hbz⟩ := HFN.out
    rw [← hW]
    obtain ⟨z0, z1, _, _⟩ := hz
    exact bodyPost_ret (v := .tuple #[tv 0 ⟨#[]⟩, .bool false]) (by simp [results, Try.results61, go_sem, z0, z1]) rfl ⟨rfl, hbz⟩

set_option maxRecDepth 100000 in
set_option maxHeartbeats 4000000 in
theorem sHalf (n b : Nat) (F : Nat → Bool) (w : World) (hn : n ≤ 11) (hb : b ≤ 1) :
    Calls Try.prog 61 #[tv ((n + 1 : Nat) : Int) (bs (tab (n + 1) F)), .int .i64 (b : Int)] w fun e w' => e = .returned (.tuple #[tv (n : Int) (bs (tab n fun p => F (b * 2 ^ n + p))), .bool true]) ∧ Below w.heap.size w w' := by
  have HO : Hid (∀ W, Calls Try.prog 74 #[tv ((n + 1 : Nat) : Int) (bs (tab (n + 1) F))] W fun e w' => e = .returned (.bool true) ∧ Below W.heap.size W w') := fun W => sOk1 (n + 1) F W (by omega)
  have HI : Hid (∀ W, Calls Try.prog 62 #[.int .i64 (b : Int), .int .i64 0, .int .i64 1] W fun e w' => e = .returned (.bool true) ∧ w' = W) := fun W => sInT W ⟨by omega, by omega⟩
  obtain ⟨hp, hl⟩ := p12 (n := n) (by omega)
  have hp1 : 2 ^ (n + 1) = 2 * 2 ^ n := by rw [Nat.pow_succ]; omega
  have hSz : (bs (tab (n + 1) F)).size = 2 * 2 ^ n := by rw [bs_size, tab_length, hp1]
  have HT : Hid ((bs (tab (n + 1) F)).extract (b * 2 ^ n) (b * 2 ^ n + 2 ^ n) = bs (tab n fun p => F (b * 2 ^ n + p))) := half_text n b F hb
  have e1 : ((n + 1 : Nat) : Int) - 1 = (n : Int) := by omega
  have hNb : (((n + 1 : Nat) : Int) == 0) = false := beq_eq_false_iff_ne.2 (by omega)
  clear hp1
  generalize bs (tab n fun p => F (b * 2 ^ n + p)) = RS at *
  generalize bs (tab (n + 1) F) = S at *
  generalize 2 ^ n = P at *
  have hSP : (S.size : Int) / 2 = (P : Int) := by omega
  have HSz : Hid (S.size = 2 * P) := hSz
  have hSl : S.size ≤ 8192 := by omega
  clear hSz
  generalize n + 1 = N at *
  have HA : Hid (Below w.heap.size w ((w.alloc (.cells #[.int .i64 (N : Int), .string S] 26)).alloc (.cells #[.int .i64 0, .string ByteArray.empty] 26))) := ((Below.refl _ _).alloc (Nat.le_refl _) _).alloc (by simp) _
  have HX : Hid (Lay ((w.alloc (.cells #[.int .i64 (N : Int), .string S] 26)).alloc (.cells #[.int .i64 0, .string ByteArray.empty] 26)) w.heap.size (.int .i64 (N : Int)) (.string S)) := (Lay.made _ _ _ _).alloc _
  have HR : Hid (Lay ((w.alloc (.cells #[.int .i64 (N : Int), .string S] 26)).alloc (.cells #[.int .i64 0, .string ByteArray.empty] 26)) (w.heap.size + 1) (.int .i64 0) (.string ByteArray.empty)) := by
    have := Lay.made (w.alloc (.cells #[.int .i64 (N : Int), .string S] 26)) (.int .i64 0) (.string ByteArray.empty) 26
    show Lay _ _ _ _
    simpa using this
  rcases (by omega : b = 0 ∨ b = 1) with rfl | rfl
  all_goals
    go_enter Try.func61, Try.ntmps61
    go_wp2_with fail
    refine (HO.out _).mono ?_
    rintro e w1 ⟨rfl, hb⟩
    have HA1 : Hid (Below w.heap.size w w1) := HA.out.trans (hb.mono HA.out.size)
    have HR1 : Hid (Lay w1 (w.heap.size + 1) (.int .i64 0) (.string ByteArray.empty)) := HR.out.below hb
    obtain ⟨x0, x1, _, _⟩ := HX.out.below hb
    clear hb
    obtain ⟨r0, r1, r2, r3⟩ := HR1.out
    have hext := HT.out
    go_wp2_with (go_at_call 62; refine (HI.out _).mono ?_; rintro e w' ⟨rfl, rfl⟩)
  · simp only [Nat.zero_mul, Nat.zero_add] at hext
    have hPS : (P : Int) ≤ (S.size : Int) := by have := HSz.out; omega
    go_region
    go_wp2
    obtain ⟨W, hW, hz, hbz⟩ := finT HR1.out HA1.out (by omega) (.int .i64 (n : Int)) (.string RS)
    rw [← hW]
    obtain ⟨z0, z1, _, _⟩ := hz
    exact bodyPost_ret (v := .tuple #[tv (n : Int) RS, .bool true]) (by simp [results, Try.results61, go_sem, z0, z1]) rfl ⟨rfl, below_drewN hbz 1⟩
  · simp only [Nat.one_mul] at hext
    have hPS : (P : Int) + (P : Int) ≤ (S.size : Int) := by have := HSz.out; omega
    go_region
    go_wp2
    obtain ⟨W, hW, hz, hbz⟩ := finT HR1.out HA1.out (by omega) (.int .i64 (n : Int)) (.string RS)
    rw [← hW]
    obtain ⟨z0, z1, _, _⟩ := hz
    exact bodyPost_ret (v := .tuple #[tv (n : Int) RS, .bool true]) (by simp [results, Try.results61, go_sem, z0, z1]) rfl ⟨rfl, below_drewN hbz 1⟩

end Go.Proofs.Yteplffphkakliaa.Td4

/- The model's functions over tables: needs. -/
namespace Go.Proofs.Yteplffphkakliaa.Td5
open Go.RowKit
open Ta0 Ta1 Ta2 Tc2 Tc5 Td1 Td2 Ap0
open Nd0 (Kept Ints WInts set_other set_same lt_of_cell)
open Ss0 (bs bs_size ret_str bs_ext)
open Ss1 (tl tl_length tl_get tl_take bs_tl tl_bs tl_inj eqb)
set_option linter.unusedVariables false

theorem bne48 {a b : Bool} (h : a ≠ b) : ((48 + (a.toNat : Int)) != (48 + (b.toNat : Int))) = true := by
  cases a <;> cases b <;> first | rfl | exact absurd rfl h

/-- What stands while numbers are collected. -/
structure ON (w : World) (N : Int) (S : ByteArray) (v : Value) (l : List Int) (W : World) : Prop where
  lay : Lay W w.heap.size (.int .i64 N) (.string S)
  own : Ows W (w.heap.size + 1) v l
  siz : w.heap.size + 1 ≤ W.heap.size
  bel : Below w.heap.size w W
theorem ON.next {w W W' : World} {N : Int} {S : ByteArray} {v v' : Value} {l l' : List Int} (h : ON w N S v l W) (hk : Kept (fun k => v.ownBlock = some k) W W') (ho : Ows W' (w.heap.size + 1) v' l') : ON w N S v' l' W' :=
  ⟨h.lay.kept hk (fun e => by have := (h.own.lt _ e).1; omega), ho, by have := hk.size; have := h.siz; omega, h.bel.trans (hk.below (fun b hb => by have := (h.own.lt _ hb).1; omega) h.bel.size)⟩
theorem ON.below {w W W' : World} {N : Int} {S : ByteArray} {v : Value} {l : List Int} (h : ON w N S v l W) (k : Below W.heap.size W W') : ON w N S v l W' :=
  ⟨h.lay.below k, h.own.kept (S := fun _ => False) (Kept.ofBelow k) (fun _ _ h => h), by have := k.size; have := h.siz; omega, h.bel.trans (k.mono h.bel.size)⟩
theorem ON.drewN {w W : World} {N : Int} {S : ByteArray} {v : Value} {l : List Int} (h : ON w N S v l W) (n : Nat) : ON w N S v l (W.drewN n) := h.below (below_drewN (Below.refl _ _) n)
theorem ON.start (w : World) (N : Int) (S : ByteArray) : ON w N S (.slice (some ⟨w.heap.size + 1, 0, none⟩) 0 0) [] ((w.alloc (.cells #[.int .i64 N, .string S] 26)).alloc (.cells #[] 3)) := by
  refine ⟨(Lay.made _ _ _ _).alloc _, ?_, by simp, ((Below.refl _ _).alloc (Nat.le_refl _) _).alloc (by simp) _⟩
  have := Ows.lit (w.alloc (.cells #[.int .i64 N, .string S] 26)) (w.heap.size + 1) (by simp)
  simpa using this
theorem ON.wints {w W : World} {N : Int} {S : ByteArray} {v : Value} {l : List Int} (h : ON w N S v l W) : ∃ a c, v = .slice a l.length c ∧ WInts W w.heap.size a l := by
  obtain ⟨a, c, hv, hw⟩ := h.own.form
  refine ⟨a, c, hv, hw.1, ?_⟩
  rcases hw.2 with h0 | ⟨b, o, ha, hb, hc⟩
  · exact .inl h0
  · exact .inr ⟨b, o, ha, by omega, hc⟩

set_option maxHeartbeats 2000000 in
theorem sNeeds0 {N : Int} {S : ByteArray} (w : World) (hS : S.size ≤ 1048576) (h : tokB N (tl S) = false) :
    Calls Try.prog 63 #[tv N S] w fun e w' => (∃ a' c', e = .returned (.slice a' 0 c') ∧ WInts w' w.heap.size a' []) ∧ Below w.heap.size w w' := by
  have HO : Hid (∀ W, Calls Try.prog 74 #[tv N S] W fun e w' => e = .returned (.bool false) ∧ Below W.heap.size W w') := fun W => sOk0 W hS h
  have HN0 : Hid (ON w N S (.slice (some ⟨w.heap.size + 1, 0, none⟩) 0 0) [] ((w.alloc (.cells #[.int .i64 N, .string S] 26)).alloc (.cells #[] 3))) := ON.start w N S
  clear h
  go_enter Try.func63, Try.ntmps63
  go_wp2_with fail
  refine (HO.out _).mono ?_
  rintro e w1 ⟨rfl, hb⟩
  have HN1 : Hid (ON w N S (.slice (some ⟨w.heap.size + 1, 0, none⟩) 0 0) [] w1) := HN0.out.below hb
  clear hb
  go_wp2
  go_ret
  exact ⟨⟨_, _, rfl, Nat.zero_le _, .inl rfl⟩, HN1.out.bel⟩

set_option maxRecDepth 100000 in
set_option maxHeartbeats 4000000 in
theorem sNeeds (n : Nat) (F : Nat → Bool) (w : World) (hn : n ≤ 12) :
    Calls Try.prog 63 #[tv (n : Int) (bs (tab n F))] w fun e w' => (∃ a' c', e = .returned (.slice a' (ndTo n F n).length c') ∧ WInts w' w.heap.size a' (ndTo n F n)) ∧ Below w.heap.size w w' := by
  have HO : Hid (∀ W, Calls Try.prog 74 #[tv (n : Int) (bs (tab n F))] W fun e w' => e = .returned (.bool true) ∧ Below W.heap.size W w') := fun W => sOk1 n F W hn
  obtain ⟨hp, hl⟩ := p12 hn
  have HG : Hid (Sg (bs (tab n F)) (2 ^ n) F) := sg_tab n F
  have HY : Hid (∀ b i, i < 2 ^ n → i / 2 ^ (n - 1 - b) % 2 = 0 → F i ≠ F (i + 2 ^ (n - 1 - b)) → ndTo n F (b + 1) = ndTo n F b ++ [(b : Int)]) := fun b i h1 h2 h3 => ndTo_yes (nd_yes h1 h2 h3)
  have HNo : Hid (∀ b, b < n → (∀ i, i < 2 ^ n → i / 2 ^ (n - 1 - b) % 2 = 0 → F i = F (i + 2 ^ (n - 1 - b))) → ndTo n F (b + 1) = ndTo n F b) := fun b h1 h2 => ndTo_no (nd_no h1 h2)
  have HIn : Hid (∀ b i, b < n → i < 2 ^ n → i / 2 ^ (n - 1 - b) % 2 = 0 → i + 2 ^ (n - 1 - b) < 2 ^ n) := fun b i h1 h2 h3 => nd_in h1 h2 h3
  have HLe : Hid (∀ k, (ndTo n F k).length ≤ k) := fun k => ndTo_le n k F
  have HZ : Hid (ndTo n F 0 = []) := rfl
  have HPw : Hid (∀ k, k < n → ∃ st : Nat, st = 2 ^ (n - 1 - k) ∧ 1 ≤ st ∧ st ≤ 4096 ∧ ∀ W, Calls Try.prog 64 #[.int .i64 ((n - 1 - k : Nat) : Int)] W fun e w' => e = .returned (.int .i64 (st : Int)) ∧ w' = W) := fun k hk => ⟨_, rfl, (p12 (n := n - 1 - k) (by omega)).1, (p12 (n := n - 1 - k) (by omega)).2, fun W => sPow _ W (by omega)⟩
  generalize ndTo n F = ND at *
  generalize bs (tab n F) = S at *
  generalize 2 ^ n = P at *
  have hSP : S.size ≤ 4096 := by rw [HG.out.size]; exact hl
  have HN0 : Hid (ON w (n : Int) S (.slice (some ⟨w.heap.size + 1, 0, none⟩) 0 0) [] ((w.alloc (.cells #[.int .i64 (n : Int), .string S] 26)).alloc (.cells #[] 3))) := ON.start w n S
  go_enter Try.func63, Try.ntmps63
  go_wp2_with fail
  refine (HO.out _).mono ?_
  rintro e w1 ⟨rfl, hb⟩
  have HN1 : Hid (ON w (n : Int) S (.slice (some ⟨w.heap.size + 1, 0, none⟩) 0 0) (ND 0) w1) := by
    show ON _ _ _ _ _ _
    rw [HZ.out]; exact HN0.out.below hb
  clear hb
  go_wp2
  go_loopw [3, 4] (fun v i wr => ∃ k : Nat, k ≤ n ∧ i = .int .i64 k ∧ ON w (n : Int) S v (ND k) wr) (fun _ i _ => n - (intOf i).toNat)
  case atStart => exact ⟨0, Nat.zero_le _, rfl, HN1.out⟩
  case round =>
    obtain ⟨k, hk, rfl, hon⟩ := hrel
    have HON : Hid (ON w (n : Int) S u3 (ND k) wr) := hon
    clear hon
    obtain ⟨x0, x1, _, _⟩ := HON.out.lay
    by_cases hlt : k < n
    · have hkz : (k : Int) < (n : Int) := by omega
      obtain ⟨st, hst, hst1, hst2, hpw⟩ := HPw.out k hlt
      have HST : Hid (st = 2 ^ (n - 1 - k)) := hst
      have HPC : Hid (∀ W, Calls Try.prog 64 #[.int .i64 ((n - 1 - k : Nat) : Int)] W fun e w' => e = .returned (.int .i64 (st : Int)) ∧ w' = W) := hpw
      have e1 : (n : Int) - 1 - (k : Int) = ((n - 1 - k : Nat) : Int) := by omega
      clear hst hpw
      generalize hNK : n - 1 - k = nk at *
      have HNK : Hid (n - 1 - k = nk) := hNK
      clear hNK
      go_wp2_with (go_at_call 64; refine (HPC.out _).mono ?_; rintro e w' ⟨rfl, rfl⟩)
      go_loopw [3, 6] (fun v i wi => ∃ j : Nat, j ≤ P ∧ i = .int .i64 j ∧ ON w (n : Int) S v (ND k) wi ∧ ∀ i, i < j → i / st % 2 = 0 → F i = F (i + st)) (fun _ i _ => P - (intOf i).toNat)
      case atStart => exact ⟨0, Nat.zero_le _, rfl, HON.out, fun i hi => by omega⟩
      case round =>
        obtain ⟨j, hj, rfl, hon, hE⟩ := hrel
        have HOI : Hid (ON w (n : Int) S u3 (ND k) wr) := hon
        have HE : Hid (∀ i, i < j → i / st % 2 = 0 → F i = F (i + st)) := hE
        clear hon hE x0 x1
        obtain ⟨x0, x1, _, _⟩ := HOI.out.lay
        by_cases hjl : j < P
        · have hjs : j < S.size := by rw [HG.out.size]; exact hjl
          have hjz : (j : Int) < (S.size : Int) := by omega
          have hst0 : ((st : Int) == 0) = false := beq_eq_false_iff_ne.2 (by omega)
          have hst3 : ¬ st = 0 := by omega
          have hst4 : (1 : Int) ≤ (st : Int) := by omega
          have hj4 : (0 : Int) ≤ (j : Int) := by omega
          obtain ⟨dq, hdq⟩ : ∃ dq : Nat, dq = j / st := ⟨_, rfl⟩
          have hdl : dq ≤ j := by rw [hdq]; exact Nat.div_le_self _ _
          have hdv : IntKind.i64.wrap ((j : Int) / (st : Int)) = (dq : Int) := by
            rw [show (j : Int) / (st : Int) = (dq : Int) by rw [hdq]; push_cast; rfl, IntKind.wrap_i64] <;> omega
          have hdv2 : (j : Int) / (st : Int) = (dq : Int) := by rw [hdq]; push_cast; rfl
          have h9 := HG.out.at_ j hjs
          by_cases h0 : j / st % 2 = 0
          · have hd0 : ((dq : Int) % 2 == 0) = true := by
              rw [← hdq] at h0
              rw [show (dq : Int) % 2 = ((dq % 2 : Nat) : Int) by omega, h0]; rfl
            have hin := HIn.out k j hlt hjl (by rw [HNK.out, ← HST.out]; exact h0)
            rw [HNK.out, ← HST.out] at hin
            have hins : j + st < S.size := by rw [HG.out.size]; exact hin
            have h8 := HG.out.at_ (j + st) hins
            have hinz : (j : Int) + (st : Int) < (S.size : Int) := by omega
            have hj0 : (0 : Int) ≤ (j : Int) + (st : Int) := by omega
            have hje : ((j : Int) + (st : Int)).toNat = j + st := by omega
            by_cases hFF : F j = F (j + st)
            · have hne : ((S[j].toNat : Int) != (S[j + st].toNat : Int)) = false := by rw [h9, h8, hFF]; simp
              have HFF : Hid (F j = F (j + st)) := hFF
              clear h0 hdq h9 h8 hFF
              go_wp2_with fail
              go_quiet (fail)
              go_wp2
              go_roundw
              case rel => exact ⟨j + 1, by omega, by go_num, HOI.out.drewN _, fun i hi h => by
                by_cases e : i = j
                · rw [e]; exact HFF.out
                · exact HE.out i (by omega) h⟩
              case measure => simp [intOf]; omega
            · have hne : ((S[j].toNat : Int) != (S[j + st].toNat : Int)) = true := by
                rw [h9, h8]; exact bne48 hFF
              have HYk : Hid (ND (k + 1) = ND k ++ [(k : Int)]) := HY.out k j hjl (by rw [HNK.out, ← HST.out]; exact h0) (by rw [HNK.out, ← HST.out]; exact hFF)
              have HL : Hid ((ND k).length ≤ k) := HLe.out k
              clear h0 hdq h9 h8 hFF
              go_wp2_with fail
              go_quiet (fail)
              have HOq : Hid (ON w (n : Int) S u3 (ND k) (wr.drewN nq)) := HOI.out.drewN nq
              have hsz : w.heap.size + 1 ≤ (wr.drewN nq).heap.size := HOq.out.siz
              generalize wr.drewN nq = wq at *
              go_wp2_with (at_builtin; go_must (refine app_int _ rfl _ _ rfl (w.heap.size + 1) u3 (ND k) (k : Int) rfl rfl HOq.out.own hsz (by have := HL.out; omega) ?_; intro g5 cp5 w5 ho5 hk5 hg5; have HO5 : Hid (ON w (n : Int) S (.slice (some ⟨g5, 0, none⟩) ((ND k).length + 1) cp5) (ND k ++ [(k : Int)]) w5) := HOq.out.next hk5 ho5; clear ho5 hk5 hg5))
              go_roundw
              case rel => exact ⟨k + 1, by omega, by go_num, by rw [HYk.out]; exact HO5.out⟩
              case measure => simp [intOf]; omega
          · have hd0 : ((dq : Int) % 2 == 0) = false := beq_eq_false_iff_ne.2 (by rw [← hdq] at h0; omega)
            have HJ : Hid (¬ j / st % 2 = 0) := h0
            clear h0 hdq h9
            go_wp2_with fail
            go_quiet (fail)
            go_wp2
            go_roundw
            case rel => exact ⟨j + 1, by omega, by go_num, HOI.out.drewN _, fun i hi h => by
              by_cases e : i = j
              · rw [e] at h; exact absurd h HJ.out
              · exact HE.out i (by omega) h⟩
            case measure => simp [intOf]; omega
        · have hjs : ¬ (j : Int) < (S.size : Int) := by have := HG.out.size; omega
          have HN : Hid (ND (k + 1) = ND k) := HNo.out k hlt fun i hi h => by
            rw [HNK.out, ← HST.out] at h ⊢
            exact HE.out i (by omega) h
          go_wp2
          go_roundw
          case rel => exact ⟨k + 1, by omega, by go_num, by rw [HN.out]; exact HOI.out⟩
          case measure => simp [intOf]; omega
    · have HKN : Hid (k = n) := by show _ = _; omega
      obtain ⟨av, cv, hv, hwi⟩ := HON.out.wints
      rw [HKN.out] at hv hwi
      subst hv
      have HWI : Hid (WInts wr w.heap.size av (ND n)) := hwi
      have HBX : Hid (Below w.heap.size w wr) := HON.out.bel
      clear hwi HON
      go_wp2
      go_ret
      exact ⟨⟨_, _, rfl, HWI.out⟩, HBX.out⟩

end Go.Proofs.Yteplffphkakliaa.Td5
