/- The model's Merge. Written by tools/mkdm5.py. -/
import Derived.Test.YteplffphkakliaaDm1
import Derived.Test.YteplffphkakliaaDe1
namespace Go.Proofs.Yteplffphkakliaa.Dm5
open Go.RowKit
open Ta0 Ta1 Ta2 Ta3 Tc2 Tc5 Td1 Td2 Td4 De0 De1 Dm1 Ap9
open Nd0 (Kept set_other set_same lt_of_cell)
open Nd6 (Bools)
open Ss0 (bs bs_size)
open Ss1 (tl)
set_option linter.unusedVariables false

set_option maxRecDepth 100000 in
set_option maxHeartbeats 8000000 in
theorem sMerge0 {N : Int} {S : ByteArray} (ra : Option Addr) (L c : Nat) (k : Int) (w : World) (hS : S.size ≤ 1048576) (h : ¬ (tokB N (tl S) = true ∧ (L : Int) = N)) :
    Calls Try.prog 37 #[.slice ra L c, tv N S, .int .i64 k] w fun e w' => e = .returned (.tuple #[tv 0 ByteArray.empty, .bool false]) ∧ Below w.heap.size w w' := by
  have HA : Hid (Below w.heap.size w ((w.alloc (.cells #[.int .i64 N, .string S] 26)).alloc (.cells #[.int .i64 0, .string ByteArray.empty] 26))) := ((Below.refl _ _).alloc (Nat.le_refl _) _).alloc (by simp) _
  have HX : Hid (Lay ((w.alloc (.cells #[.int .i64 N, .string S] 26)).alloc (.cells #[.int .i64 0, .string ByteArray.empty] 26)) w.heap.size (.int .i64 N) (.string S)) := (Lay.made _ _ _ _).alloc _
  have HR : Hid (Lay ((w.alloc (.cells #[.int .i64 N, .string S] 26)).alloc (.cells #[.int .i64 0, .string ByteArray.empty] 26)) (w.heap.size + 1) (.int .i64 0) (.string ByteArray.empty)) := by
    have := Lay.made (w.alloc (.cells #[.int .i64 N, .string S] 26)) (.int .i64 0) (.string ByteArray.empty) 26
    show Lay _ _ _ _
    simpa using this
  have HRU : Hid (∀ W, Calls Try.prog 59 #[.slice ra L c, tv N S] W fun e w' => e = .returned (.bool false) ∧ Below W.heap.size W w') := fun W => sOkR0 ra L c W hS h
  clear h
  go_enter Try.func37, Try.ntmps37
  go_wp2_with fail
  refine (HRU.out _).mono ?_
  rintro e w1 ⟨rfl, hb⟩
  have HA1 : Hid (Below w.heap.size w w1) := HA.out.trans (hb.mono HA.out.size)
  have HR1 : Hid (Lay w1 (w.heap.size + 1) (.int .i64 0) (.string ByteArray.empty)) := HR.out.below hb
  clear hb
  obtain ⟨r0, r1, r2, r3⟩ := HR1.out
  have HFN : Hid _ := finT HR1.out HA1.out (by omega) (.int .i64 0) (.string ⟨#[]⟩)
  go_wp2
  obtain ⟨W, hW, hz, hbz⟩ := HFN.out
  rw [← hW]
  obtain ⟨z0, z1, _, _⟩ := hz
  exact bodyPost_ret (v := .tuple #[tv 0 ⟨#[]⟩, .bool false]) (by simp [results, Try.results37, go_sem, z0, z1]) rfl ⟨rfl, hbz⟩

set_option maxRecDepth 100000 in
set_option maxHeartbeats 8000000 in
theorem sMergeK (n : Nat) (F : Nat → Bool) (ra : Option Addr) (c : Nat) (k : Int) (w : World) (hn : n ≤ 12) (hk : ¬ (0 ≤ k ∧ k < (n : Int))) :
    Calls Try.prog 37 #[.slice ra n c, tv (n : Int) (bs (tab n F)), .int .i64 k] w fun e w' => e = .returned (.tuple #[tv 0 ByteArray.empty, .bool false]) ∧ Below w.heap.size w w' := by
  have HRU : Hid (∀ W, Calls Try.prog 59 #[.slice ra n c, tv (n : Int) (bs (tab n F))] W fun e w' => e = .returned (.bool true) ∧ Below W.heap.size W w') := fun W => sOkR n F ra c W hn
  have HIN : Hid (∀ W, Calls Try.prog 62 #[.int .i64 k, .int .i64 0, .int .i64 ((n : Int) - 1)] W fun e w' => e = .returned (.bool false) ∧ w' = W) := fun W => sInF W (by omega)
  generalize bs (tab n F) = S at *
  have HA : Hid (Below w.heap.size w ((w.alloc (.cells #[.int .i64 (n : Int), .string S] 26)).alloc (.cells #[.int .i64 0, .string ByteArray.empty] 26))) := ((Below.refl _ _).alloc (Nat.le_refl _) _).alloc (by simp) _
  have HX : Hid (Lay ((w.alloc (.cells #[.int .i64 (n : Int), .string S] 26)).alloc (.cells #[.int .i64 0, .string ByteArray.empty] 26)) w.heap.size (.int .i64 (n : Int)) (.string S)) := (Lay.made _ _ _ _).alloc _
  have HR : Hid (Lay ((w.alloc (.cells #[.int .i64 (n : Int), .string S] 26)).alloc (.cells #[.int .i64 0, .string ByteArray.empty] 26)) (w.heap.size + 1) (.int .i64 0) (.string ByteArray.empty)) := by
    have := Lay.made (w.alloc (.cells #[.int .i64 (n : Int), .string S] 26)) (.int .i64 0) (.string ByteArray.empty) 26
    show Lay _ _ _ _
    simpa using this
  clear hk
  go_enter Try.func37, Try.ntmps37
  go_wp2_with fail
  refine (HRU.out _).mono ?_
  rintro e w1 ⟨rfl, hb⟩
  have HA1 : Hid (Below w.heap.size w w1) := HA.out.trans (hb.mono HA.out.size)
  have HR1 : Hid (Lay w1 (w.heap.size + 1) (.int .i64 0) (.string ByteArray.empty)) := HR.out.below hb
  obtain ⟨x0, x1, _, _⟩ := HX.out.below hb
  clear hb
  obtain ⟨r0, r1, r2, r3⟩ := HR1.out
  have HFN : Hid _ := finT HR1.out HA1.out (by omega) (.int .i64 0) (.string ⟨#[]⟩)
  go_wp2_with (go_at_call 62; refine (HIN.out _).mono ?_; rintro e w' ⟨rfl, hw'⟩; have hw2 := hw'.symm; clear hw'; subst hw2)
  obtain ⟨W, hW, hz, hbz⟩ := HFN.out
  rw [← hW]
  obtain ⟨z0, z1, _, _⟩ := hz
  exact bodyPost_ret (v := .tuple #[tv 0 ⟨#[]⟩, .bool false]) (by simp [results, Try.results37, go_sem, z0, z1]) rfl ⟨rfl, hbz⟩

theorem rank_mono (s : Nat) {i j : Nat} (h : i ≤ j) : rank s i ≤ rank s j := by
  induction j with
  | zero => rw [Nat.le_zero.1 h]; exact Nat.le_refl _
  | succ j ih =>
    by_cases e : i = j + 1
    · rw [e]; exact Nat.le_refl _
    · rw [rank_next]
      have := ih (by omega)
      omega
theorem rank_lt {n1 s i : Nat} (hs : s ≤ n1) (hi : i < 2 ^ (n1 + 1)) (h : i / 2 ^ s % 2 = 0) : rank s i < 2 ^ n1 := by
  have h1 := rank_next s i
  rw [if_pos h] at h1
  have h2 := rank_mono s (i := i + 1) (j := 2 ^ (n1 + 1)) hi
  rw [rank_all n1 s hs] at h2
  omega
theorem _root_.Go.Proofs.Yteplffphkakliaa.Td2.OT.drewN {w W : World} {B r : Nat} {N : Int} {S : ByteArray} {v : Value} {l : List UInt8} (h : OT w B r N S v l W) (k : Nat) : OT w B r N S v l (W.drewN k) :=
  ⟨h.lay.below (below_drewN (Below.refl _ _) k), h.res.below (below_drewN (Below.refl _ _) k), h.own.kept (S := fun _ => False) (Kept.ofBelow (below_drewN (Below.refl _ _) k)) (fun _ _ h => h), h.siz, h.bel.trans ((below_drewN (Below.refl _ _) k).mono h.bel.size)⟩

set_option maxRecDepth 100000 in
set_option maxHeartbeats 8000000 in
theorem sMerge_false (n n1 : Nat) (F : Nat → Bool) (xb xo : Nat) (c k : Nat) (w : World) (hn : n ≤ 12) (hnn : n = n1 + 1) (hk : k < n) (p0 : w.cell? ⟨xb, xo + k, none⟩ = some (.bool false)) :
    Calls Try.prog 37 #[.slice (some ⟨xb, xo, none⟩) n c, tv (n : Int) (bs (tab n F)), .int .i64 (k : Int)] w fun e w' => e = .returned (.tuple #[tv (n1 : Int) (bs (tab n1 (mg (n - 1 - k) false F))), .bool true]) ∧ Below w.heap.size w w' := by
  have HRU : Hid (∀ W, Calls Try.prog 59 #[.slice (some ⟨xb, xo, none⟩) n c, tv (n : Int) (bs (tab n F))] W fun e w' => e = .returned (.bool true) ∧ Below W.heap.size W w') := fun W => sOkR n F _ c W hn
  have HIN : Hid (∀ W, Calls Try.prog 62 #[.int .i64 (k : Int), .int .i64 0, .int .i64 (n1 : Int)] W fun e w' => e = .returned (.bool true) ∧ w' = W) := fun W => sInT W (by omega)
  have HPW : Hid (∀ W, Calls Try.prog 64 #[.int .i64 ((n1 - k : Nat) : Int)] W fun e w' => e = .returned (.int .i64 ((2 ^ (n - 1 - k) : Nat) : Int)) ∧ w' = W) := fun W => by
    have := sPow (n1 - k) W (by omega)
    rwa [show n - 1 - k = n1 - k by omega]
  obtain ⟨M, hM⟩ : ∃ M, M = mg (n - 1 - k) false F := ⟨_, rfl⟩
  have HGF : Hid (∀ i, i / 2 ^ (n - 1 - k) % 2 = 0 → M (rank (n - 1 - k) i) = (F i || F (i + 2 ^ (n - 1 - k)))) := fun i h => by
    have e := rank_put h
    rw [hM]
    show (F (put1 (n - 1 - k) 0 (rank (n - 1 - k) i)) || F (put1 (n - 1 - k) 1 (rank (n - 1 - k) i))) = _
    rw [put_high, e]
  have HRN : Hid (∀ i, rank (n - 1 - k) (i + 1) = rank (n - 1 - k) i + if i / 2 ^ (n - 1 - k) % 2 = 0 then 1 else 0) := fun i => rank_next _ i
  have HRL : Hid (∀ i, i < 2 ^ n → i / 2 ^ (n - 1 - k) % 2 = 0 → rank (n - 1 - k) i < 2 ^ n1) := fun i h1 h2 => rank_lt (by omega) (by rw [← hnn]; exact h1) h2
  have HR0 : Hid (rank (n - 1 - k) 0 = 0) := rank_0 _
  have HRA : Hid (rank (n - 1 - k) (2 ^ n) = 2 ^ n1) := by
    show _ = _
    rw [hnn]; exact rank_all n1 _ (by omega)
  have HIn : Hid (∀ i, i < 2 ^ n → i / 2 ^ (n - 1 - k) % 2 = 0 → i + 2 ^ (n - 1 - k) < 2 ^ n) := fun i h2 h3 => nd_in hk h2 h3
  obtain ⟨hp, hl⟩ := p12 hn
  obtain ⟨hp1, hl1⟩ := p12 (n := n1) (by omega)
  have hst := p12 (n := n - 1 - k) (by omega)
  have HG : Hid (Sg (bs (tab n F)) (2 ^ n) F) := sg_tab n F
  have HT0 : Hid (tk n1 M 0 = []) := rfl
  have HTL : Hid (∀ j, j ≤ 2 ^ n1 → (tk n1 M j).length = j) := fun j h => tk_len h
  have HTS : Hid (∀ j, j < 2 ^ n1 → tk n1 M (j + 1) = tk n1 M j ++ [sgn (M j)]) := fun j h => tk_succ h
  have HTA : Hid (bs (tk n1 M (2 ^ n1)) = bs (tab n1 M)) := by show _ = _; rw [tk_all]
  have hnz : (n : Int) - 1 = (n1 : Int) := by omega
  have hnk : (n1 : Int) - (k : Int) = ((n1 - k : Nat) : Int) := by omega
  have hkz : (k : Int) < (n : Int) := by omega
  rw [← hM]
  clear hM hnn
  generalize rank (n - 1 - k) = RK at *
  generalize 2 ^ (n - 1 - k) = st at *
  generalize n1 - k = nk at *
  generalize bs (tab n1 M) = RS at *
  generalize tk n1 M = TK at *
  generalize bs (tab n F) = S at *
  generalize 2 ^ n1 = P1 at *
  generalize 2 ^ n = P at *
  have hSP : S.size ≤ 4096 := by rw [HG.out.size]; exact hl
  have hst0 : ((st : Int) == 0) = false := beq_eq_false_iff_ne.2 (by omega)
  have hst3 : ¬ st = 0 := by omega
  have hst4 : (1 : Int) ≤ (st : Int) := by omega
  have HA : Hid (Below w.heap.size w ((w.alloc (.cells #[.int .i64 (n : Int), .string S] 26)).alloc (.cells #[.int .i64 0, .string ByteArray.empty] 26))) := ((Below.refl _ _).alloc (Nat.le_refl _) _).alloc (by simp) _
  have HX : Hid (Lay ((w.alloc (.cells #[.int .i64 (n : Int), .string S] 26)).alloc (.cells #[.int .i64 0, .string ByteArray.empty] 26)) w.heap.size (.int .i64 (n : Int)) (.string S)) := (Lay.made _ _ _ _).alloc _
  have HR : Hid (Lay ((w.alloc (.cells #[.int .i64 (n : Int), .string S] 26)).alloc (.cells #[.int .i64 0, .string ByteArray.empty] 26)) (w.heap.size + 1) (.int .i64 0) (.string ByteArray.empty)) := by
    have := Lay.made (w.alloc (.cells #[.int .i64 (n : Int), .string S] 26)) (.int .i64 0) (.string ByteArray.empty) 26
    show Lay _ _ _ _
    simpa using this
  go_enter Try.func37, Try.ntmps37
  go_wp2_with fail
  refine (HRU.out _).mono ?_
  rintro e w1 ⟨rfl, hb⟩
  have HA1 : Hid (Below w.heap.size w w1) := HA.out.trans (hb.mono HA.out.size)
  have HX1 : Hid (Lay w1 w.heap.size (.int .i64 (n : Int)) (.string S)) := HX.out.below hb
  have HR1 : Hid (Lay w1 (w.heap.size + 1) (.int .i64 0) (.string ByteArray.empty)) := HR.out.below hb
  clear hb HA HX HR
  have hw1 := HR1.out.lt
  have HOT : Hid (OT w w.heap.size (w.heap.size + 1) (n : Int) S (.slice (some ⟨w1.heap.size, 0, none⟩) 0 0) (TK (RK 0)) (w1.alloc (.cells #[] 5))) :=
    ⟨HX1.out.alloc _, HR1.out.alloc _, by rw [HR0.out, HT0.out]; exact Owu.lit w1 _ (by omega), by simp; omega, HA1.out.alloc HA1.out.size _⟩
  obtain ⟨x0, x1, _, _⟩ := HX1.out
  go_wp2_with (first | (go_at_call 62; refine (HIN.out _).mono ?_; rintro e w' ⟨rfl, hw'⟩; have hw2 := hw'.symm; clear hw'; subst hw2) | (go_at_call 64; refine (HPW.out _).mono ?_; rintro e w' ⟨rfl, hw'⟩; have hw2 := hw'.symm; clear hw'; subst hw2))
  clear x0 x1 HX1 HR1 HA1
  go_loopw [9, 10] (fun v i wr => ∃ i1 : Nat, i1 ≤ P ∧ i = .int .i64 i1 ∧ OT w w.heap.size (w.heap.size + 1) (n : Int) S v (TK (RK i1)) wr) (fun _ i _ => P - (intOf i).toNat)
  case atStart => exact ⟨0, Nat.zero_le _, rfl, HOT.out⟩
  case round =>
    obtain ⟨j, hj, rfl, hot⟩ := hrel
    have HS : Hid (OT w w.heap.size (w.heap.size + 1) (n : Int) S u9 (TK (RK j)) wr) := hot
    clear hot
    obtain ⟨x0, x1, _, _⟩ := HS.out.lay
    by_cases hlt : j < P
    · have hjs : j < S.size := by rw [HG.out.size]; exact hlt
      have hjz : (j : Int) < (S.size : Int) := by omega
      have hj4 : (0 : Int) ≤ (j : Int) := by omega
      obtain ⟨dq, hdq⟩ : ∃ dq : Nat, dq = j / st := ⟨_, rfl⟩
      have hdl : dq ≤ j := by rw [hdq]; exact Nat.div_le_self _ _
      have hdv : IntKind.i64.wrap ((j : Int) / (st : Int)) = (dq : Int) := by
        rw [show (j : Int) / (st : Int) = (dq : Int) by rw [hdq]; push_cast; rfl, IntKind.wrap_i64] <;> omega
      have hdv2 : (j : Int) / (st : Int) = (dq : Int) := by rw [hdq]; push_cast; rfl
      have h9 := HG.out.at_ j hjs
      by_cases h0 : j / st % 2 = 0
      · have hd0 : ((dq : Int) % 2 == 1) = false := beq_eq_false_iff_ne.2 (by rw [← hdq] at h0; omega)
        have hin := HIn.out j hlt h0
        have hins : j + st < S.size := by rw [HG.out.size]; exact hin
        have h8 := HG.out.at_ (j + st) hins
        have hinz : (j : Int) + (st : Int) < (S.size : Int) := by omega
        have hj0 : (0 : Int) ≤ (j : Int) + (st : Int) := by omega
        have hje : ((j : Int) + (st : Int)).toNat = j + st := by omega
        have HMk := HGF.out j h0
        have HRj : Hid (RK (j + 1) = RK j + 1) := by show _ = _; rw [HRN.out, if_pos h0]
        have hrl := HRL.out j hlt h0
        have HTK := HTS.out _ hrl
        have HLN := HTL.out (RK j) (by omega)
        have pr : Hid (∀ W, Below w.heap.size w W → W.cell? ⟨xb, xo + k, none⟩ = some (.bool false)) := fun W h => by rw [h.cell (lt_of_cell p0)]; exact p0
        have ba00 : bits .or .u8 0 0 = 0 := by decide
        have ba01 : bits .or .u8 0 1 = 1 := by decide
        have ba10 : bits .or .u8 1 0 = 1 := by decide
        have ba11 : bits .or .u8 1 1 = 1 := by decide
        clear h0 hdq
        generalize RK j = rj at *
        cases hF : F j <;> cases hG : F (j + st)
        all_goals
          rw [hF] at h9 HMk
          rw [hG] at h8 HMk
          rw [HMk] at HTK
          clear hF hG HMk
          have HT : Hid (TK (rj + 1) = TK rj ++ [sgn _]) := HTK
          have HL : Hid ((TK rj).length = rj) := HLN
          clear HTK HLN
          simp only [Bool.toNat_false, Bool.toNat_true, Int.natCast_zero, Int.natCast_one] at h9 h8
          go_wp2_with fail
          go_quiet (fail)
          have HSq : Hid (OT w w.heap.size (w.heap.size + 1) (n : Int) S u9 (TK rj) (wr.drewN nq)) := HS.out.drewN nq
          have hsz : w.heap.size + 1 + 1 ≤ (wr.drewN nq).heap.size := HSq.out.siz
          have pq := pr.out _ HSq.out.bel
          generalize wr.drewN nq = wq at *
          go_wp2_with (at_builtin; go_must (refine app_byte _ rfl _ _ rfl (w.heap.size + 1 + 1) u9 (TK rj) (sgn _) _ (by first | exact show (49 : Int) = ((sgn true).toNat : Int) from rfl | exact show (48 : Int) = ((sgn false).toNat : Int) from rfl) rfl rfl HSq.out.own hsz (by rw [HL.out]; omega) ?_; intro g5 cp5 w5 ho5 hk5 hg5; have HO5 : Hid (OT w w.heap.size (w.heap.size + 1) (n : Int) S (.slice (some ⟨g5, 0, none⟩) ((TK rj).length + 1) cp5) (TK rj ++ [sgn _]) w5) := HSq.out.next (by omega) (by omega) hk5 ho5; clear ho5 hk5 hg5))
          go_roundw
          case rel => exact ⟨j + 1, by omega, by go_num, by rw [HRj.out, HT.out]; exact HO5.out⟩
          case measure => simp [intOf]; omega
      · have hd0 : ((dq : Int) % 2 == 1) = true := by
          rw [← hdq] at h0
          rw [show (dq : Int) % 2 = ((dq % 2 : Nat) : Int) by omega, show dq % 2 = 1 by omega]; rfl
        have HRj : Hid (RK (j + 1) = RK j) := by show _ = _; rw [HRN.out, if_neg h0]; rfl
        clear h0 hdq h9
        go_wp2
        go_roundw
        case rel => exact ⟨j + 1, by omega, by go_num, by rw [HRj.out]; exact HS.out⟩
        case measure => simp [intOf]; omega
    · have hkP : j = P := by omega
      have HSP : Hid (OT w w.heap.size (w.heap.size + 1) (n : Int) S u9 (TK P1) wr) := by
        have h := HS.out
        rw [hkP, HRA.out] at h
        exact h
      have hks : ¬ (j : Int) < (S.size : Int) := by have := HG.out.size; omega
      have hcv : (convert 22 9 u9).run Try.prog wr = .ok (.string RS) wr := by
        have := HSP.out.own.text (by rw [HTL.out P1 (Nat.le_refl _)]; exact hp1)
        rw [HTA.out] at this
        exact this
      obtain ⟨r0, r1, r2, r3⟩ := HSP.out.res
      have HFN : Hid _ := finT HSP.out.res HSP.out.bel (by omega) (.int .i64 (n1 : Int)) (.string RS)
      clear hkP
      obtain ⟨av, cv, hv, _⟩ := HSP.out.own.form
      subst hv
      go_wp2
      obtain ⟨W, hW, hz, hbz⟩ := HFN.out
      rw [← hW]
      obtain ⟨z0, z1, _, _⟩ := hz
      exact bodyPost_ret (v := .tuple #[tv (n1 : Int) RS, .bool true]) (by simp [results, Try.results37, go_sem, z0, z1]) rfl ⟨rfl, hbz⟩

set_option maxRecDepth 100000 in
set_option maxHeartbeats 8000000 in
theorem sMerge_true (n n1 : Nat) (F : Nat → Bool) (xb xo : Nat) (c k : Nat) (w : World) (hn : n ≤ 12) (hnn : n = n1 + 1) (hk : k < n) (p0 : w.cell? ⟨xb, xo + k, none⟩ = some (.bool true)) :
    Calls Try.prog 37 #[.slice (some ⟨xb, xo, none⟩) n c, tv (n : Int) (bs (tab n F)), .int .i64 (k : Int)] w fun e w' => e = .returned (.tuple #[tv (n1 : Int) (bs (tab n1 (mg (n - 1 - k) true F))), .bool true]) ∧ Below w.heap.size w w' := by
  have HRU : Hid (∀ W, Calls Try.prog 59 #[.slice (some ⟨xb, xo, none⟩) n c, tv (n : Int) (bs (tab n F))] W fun e w' => e = .returned (.bool true) ∧ Below W.heap.size W w') := fun W => sOkR n F _ c W hn
  have HIN : Hid (∀ W, Calls Try.prog 62 #[.int .i64 (k : Int), .int .i64 0, .int .i64 (n1 : Int)] W fun e w' => e = .returned (.bool true) ∧ w' = W) := fun W => sInT W (by omega)
  have HPW : Hid (∀ W, Calls Try.prog 64 #[.int .i64 ((n1 - k : Nat) : Int)] W fun e w' => e = .returned (.int .i64 ((2 ^ (n - 1 - k) : Nat) : Int)) ∧ w' = W) := fun W => by
    have := sPow (n1 - k) W (by omega)
    rwa [show n - 1 - k = n1 - k by omega]
  obtain ⟨M, hM⟩ : ∃ M, M = mg (n - 1 - k) true F := ⟨_, rfl⟩
  have HGF : Hid (∀ i, i / 2 ^ (n - 1 - k) % 2 = 0 → M (rank (n - 1 - k) i) = (F i && F (i + 2 ^ (n - 1 - k)))) := fun i h => by
    have e := rank_put h
    rw [hM]
    show (F (put1 (n - 1 - k) 0 (rank (n - 1 - k) i)) && F (put1 (n - 1 - k) 1 (rank (n - 1 - k) i))) = _
    rw [put_high, e]
  have HRN : Hid (∀ i, rank (n - 1 - k) (i + 1) = rank (n - 1 - k) i + if i / 2 ^ (n - 1 - k) % 2 = 0 then 1 else 0) := fun i => rank_next _ i
  have HRL : Hid (∀ i, i < 2 ^ n → i / 2 ^ (n - 1 - k) % 2 = 0 → rank (n - 1 - k) i < 2 ^ n1) := fun i h1 h2 => rank_lt (by omega) (by rw [← hnn]; exact h1) h2
  have HR0 : Hid (rank (n - 1 - k) 0 = 0) := rank_0 _
  have HRA : Hid (rank (n - 1 - k) (2 ^ n) = 2 ^ n1) := by
    show _ = _
    rw [hnn]; exact rank_all n1 _ (by omega)
  have HIn : Hid (∀ i, i < 2 ^ n → i / 2 ^ (n - 1 - k) % 2 = 0 → i + 2 ^ (n - 1 - k) < 2 ^ n) := fun i h2 h3 => nd_in hk h2 h3
  obtain ⟨hp, hl⟩ := p12 hn
  obtain ⟨hp1, hl1⟩ := p12 (n := n1) (by omega)
  have hst := p12 (n := n - 1 - k) (by omega)
  have HG : Hid (Sg (bs (tab n F)) (2 ^ n) F) := sg_tab n F
  have HT0 : Hid (tk n1 M 0 = []) := rfl
  have HTL : Hid (∀ j, j ≤ 2 ^ n1 → (tk n1 M j).length = j) := fun j h => tk_len h
  have HTS : Hid (∀ j, j < 2 ^ n1 → tk n1 M (j + 1) = tk n1 M j ++ [sgn (M j)]) := fun j h => tk_succ h
  have HTA : Hid (bs (tk n1 M (2 ^ n1)) = bs (tab n1 M)) := by show _ = _; rw [tk_all]
  have hnz : (n : Int) - 1 = (n1 : Int) := by omega
  have hnk : (n1 : Int) - (k : Int) = ((n1 - k : Nat) : Int) := by omega
  have hkz : (k : Int) < (n : Int) := by omega
  rw [← hM]
  clear hM hnn
  generalize rank (n - 1 - k) = RK at *
  generalize 2 ^ (n - 1 - k) = st at *
  generalize n1 - k = nk at *
  generalize bs (tab n1 M) = RS at *
  generalize tk n1 M = TK at *
  generalize bs (tab n F) = S at *
  generalize 2 ^ n1 = P1 at *
  generalize 2 ^ n = P at *
  have hSP : S.size ≤ 4096 := by rw [HG.out.size]; exact hl
  have hst0 : ((st : Int) == 0) = false := beq_eq_false_iff_ne.2 (by omega)
  have hst3 : ¬ st = 0 := by omega
  have hst4 : (1 : Int) ≤ (st : Int) := by omega
  have HA : Hid (Below w.heap.size w ((w.alloc (.cells #[.int .i64 (n : Int), .string S] 26)).alloc (.cells #[.int .i64 0, .string ByteArray.empty] 26))) := ((Below.refl _ _).alloc (Nat.le_refl _) _).alloc (by simp) _
  have HX : Hid (Lay ((w.alloc (.cells #[.int .i64 (n : Int), .string S] 26)).alloc (.cells #[.int .i64 0, .string ByteArray.empty] 26)) w.heap.size (.int .i64 (n : Int)) (.string S)) := (Lay.made _ _ _ _).alloc _
  have HR : Hid (Lay ((w.alloc (.cells #[.int .i64 (n : Int), .string S] 26)).alloc (.cells #[.int .i64 0, .string ByteArray.empty] 26)) (w.heap.size + 1) (.int .i64 0) (.string ByteArray.empty)) := by
    have := Lay.made (w.alloc (.cells #[.int .i64 (n : Int), .string S] 26)) (.int .i64 0) (.string ByteArray.empty) 26
    show Lay _ _ _ _
    simpa using this
  go_enter Try.func37, Try.ntmps37
  go_wp2_with fail
  refine (HRU.out _).mono ?_
  rintro e w1 ⟨rfl, hb⟩
  have HA1 : Hid (Below w.heap.size w w1) := HA.out.trans (hb.mono HA.out.size)
  have HX1 : Hid (Lay w1 w.heap.size (.int .i64 (n : Int)) (.string S)) := HX.out.below hb
  have HR1 : Hid (Lay w1 (w.heap.size + 1) (.int .i64 0) (.string ByteArray.empty)) := HR.out.below hb
  clear hb HA HX HR
  have hw1 := HR1.out.lt
  have HOT : Hid (OT w w.heap.size (w.heap.size + 1) (n : Int) S (.slice (some ⟨w1.heap.size, 0, none⟩) 0 0) (TK (RK 0)) (w1.alloc (.cells #[] 5))) :=
    ⟨HX1.out.alloc _, HR1.out.alloc _, by rw [HR0.out, HT0.out]; exact Owu.lit w1 _ (by omega), by simp; omega, HA1.out.alloc HA1.out.size _⟩
  obtain ⟨x0, x1, _, _⟩ := HX1.out
  go_wp2_with (first | (go_at_call 62; refine (HIN.out _).mono ?_; rintro e w' ⟨rfl, hw'⟩; have hw2 := hw'.symm; clear hw'; subst hw2) | (go_at_call 64; refine (HPW.out _).mono ?_; rintro e w' ⟨rfl, hw'⟩; have hw2 := hw'.symm; clear hw'; subst hw2))
  clear x0 x1 HX1 HR1 HA1
  go_loopw [9, 10] (fun v i wr => ∃ i1 : Nat, i1 ≤ P ∧ i = .int .i64 i1 ∧ OT w w.heap.size (w.heap.size + 1) (n : Int) S v (TK (RK i1)) wr) (fun _ i _ => P - (intOf i).toNat)
  case atStart => exact ⟨0, Nat.zero_le _, rfl, HOT.out⟩
  case round =>
    obtain ⟨j, hj, rfl, hot⟩ := hrel
    have HS : Hid (OT w w.heap.size (w.heap.size + 1) (n : Int) S u9 (TK (RK j)) wr) := hot
    clear hot
    obtain ⟨x0, x1, _, _⟩ := HS.out.lay
    by_cases hlt : j < P
    · have hjs : j < S.size := by rw [HG.out.size]; exact hlt
      have hjz : (j : Int) < (S.size : Int) := by omega
      have hj4 : (0 : Int) ≤ (j : Int) := by omega
      obtain ⟨dq, hdq⟩ : ∃ dq : Nat, dq = j / st := ⟨_, rfl⟩
      have hdl : dq ≤ j := by rw [hdq]; exact Nat.div_le_self _ _
      have hdv : IntKind.i64.wrap ((j : Int) / (st : Int)) = (dq : Int) := by
        rw [show (j : Int) / (st : Int) = (dq : Int) by rw [hdq]; push_cast; rfl, IntKind.wrap_i64] <;> omega
      have hdv2 : (j : Int) / (st : Int) = (dq : Int) := by rw [hdq]; push_cast; rfl
      have h9 := HG.out.at_ j hjs
      by_cases h0 : j / st % 2 = 0
      · have hd0 : ((dq : Int) % 2 == 1) = false := beq_eq_false_iff_ne.2 (by rw [← hdq] at h0; omega)
        have hin := HIn.out j hlt h0
        have hins : j + st < S.size := by rw [HG.out.size]; exact hin
        have h8 := HG.out.at_ (j + st) hins
        have hinz : (j : Int) + (st : Int) < (S.size : Int) := by omega
        have hj0 : (0 : Int) ≤ (j : Int) + (st : Int) := by omega
        have hje : ((j : Int) + (st : Int)).toNat = j + st := by omega
        have HMk := HGF.out j h0
        have HRj : Hid (RK (j + 1) = RK j + 1) := by show _ = _; rw [HRN.out, if_pos h0]
        have hrl := HRL.out j hlt h0
        have HTK := HTS.out _ hrl
        have HLN := HTL.out (RK j) (by omega)
        have pr : Hid (∀ W, Below w.heap.size w W → W.cell? ⟨xb, xo + k, none⟩ = some (.bool true)) := fun W h => by rw [h.cell (lt_of_cell p0)]; exact p0
        have ba00 : bits .and .u8 0 0 = 0 := by decide
        have ba01 : bits .and .u8 0 1 = 0 := by decide
        have ba10 : bits .and .u8 1 0 = 0 := by decide
        have ba11 : bits .and .u8 1 1 = 1 := by decide
        clear h0 hdq
        generalize RK j = rj at *
        cases hF : F j <;> cases hG : F (j + st)
        all_goals
          rw [hF] at h9 HMk
          rw [hG] at h8 HMk
          rw [HMk] at HTK
          clear hF hG HMk
          have HT : Hid (TK (rj + 1) = TK rj ++ [sgn _]) := HTK
          have HL : Hid ((TK rj).length = rj) := HLN
          clear HTK HLN
          simp only [Bool.toNat_false, Bool.toNat_true, Int.natCast_zero, Int.natCast_one] at h9 h8
          go_wp2_with fail
          go_quiet (fail)
          have HSq : Hid (OT w w.heap.size (w.heap.size + 1) (n : Int) S u9 (TK rj) (wr.drewN nq)) := HS.out.drewN nq
          have hsz : w.heap.size + 1 + 1 ≤ (wr.drewN nq).heap.size := HSq.out.siz
          have pq := pr.out _ HSq.out.bel
          generalize wr.drewN nq = wq at *
          go_wp2_with (at_builtin; go_must (refine app_byte _ rfl _ _ rfl (w.heap.size + 1 + 1) u9 (TK rj) (sgn _) _ (by first | exact show (49 : Int) = ((sgn true).toNat : Int) from rfl | exact show (48 : Int) = ((sgn false).toNat : Int) from rfl) rfl rfl HSq.out.own hsz (by rw [HL.out]; omega) ?_; intro g5 cp5 w5 ho5 hk5 hg5; have HO5 : Hid (OT w w.heap.size (w.heap.size + 1) (n : Int) S (.slice (some ⟨g5, 0, none⟩) ((TK rj).length + 1) cp5) (TK rj ++ [sgn _]) w5) := HSq.out.next (by omega) (by omega) hk5 ho5; clear ho5 hk5 hg5))
          go_roundw
          case rel => exact ⟨j + 1, by omega, by go_num, by rw [HRj.out, HT.out]; exact HO5.out⟩
          case measure => simp [intOf]; omega
      · have hd0 : ((dq : Int) % 2 == 1) = true := by
          rw [← hdq] at h0
          rw [show (dq : Int) % 2 = ((dq % 2 : Nat) : Int) by omega, show dq % 2 = 1 by omega]; rfl
        have HRj : Hid (RK (j + 1) = RK j) := by show _ = _; rw [HRN.out, if_neg h0]; rfl
        clear h0 hdq h9
        go_wp2
        go_roundw
        case rel => exact ⟨j + 1, by omega, by go_num, by rw [HRj.out]; exact HS.out⟩
        case measure => simp [intOf]; omega
    · have hkP : j = P := by omega
      have HSP : Hid (OT w w.heap.size (w.heap.size + 1) (n : Int) S u9 (TK P1) wr) := by
        have h := HS.out
        rw [hkP, HRA.out] at h
        exact h
      have hks : ¬ (j : Int) < (S.size : Int) := by have := HG.out.size; omega
      have hcv : (convert 22 9 u9).run Try.prog wr = .ok (.string RS) wr := by
        have := HSP.out.own.text (by rw [HTL.out P1 (Nat.le_refl _)]; exact hp1)
        rw [HTA.out] at this
        exact this
      obtain ⟨r0, r1, r2, r3⟩ := HSP.out.res
      have HFN : Hid _ := finT HSP.out.res HSP.out.bel (by omega) (.int .i64 (n1 : Int)) (.string RS)
      clear hkP
      obtain ⟨av, cv, hv, _⟩ := HSP.out.own.form
      subst hv
      go_wp2
      obtain ⟨W, hW, hz, hbz⟩ := HFN.out
      rw [← hW]
      obtain ⟨z0, z1, _, _⟩ := hz
      exact bodyPost_ret (v := .tuple #[tv (n1 : Int) RS, .bool true]) (by simp [results, Try.results37, go_sem, z0, z1]) rfl ⟨rfl, hbz⟩

theorem sMerge (n : Nat) (F : Nat → Bool) (ra : Option Addr) (row : List Bool) (c k : Nat) (w : World) (hn : n ≤ 11) (hrn : row.length = n + 1) (hk : k < row.length) (hB : Bools w ra row) :
    Calls Try.prog 37 #[.slice ra (n + 1) c, tv ((n : Int) + 1) (bs (tab (n + 1) F)), .int .i64 (k : Int)] w fun e w' => e = .returned (.tuple #[tv (n : Int) (bs (tab n (mg (n - k) row[k] F))), .bool true]) ∧ Below w.heap.size w w' := by
  rcases hB.2 with h0 | ⟨xb, xo, rfl, hc⟩
  · omega
  have p0 := hc k hk
  have e2 : (n : Int) + 1 = ((n + 1 : Nat) : Int) := by push_cast; rfl
  have e3 : n - k = n + 1 - 1 - k := by omega
  rw [e2, e3]
  cases hq : row[k]
  · rw [hq] at p0
    exact sMerge_false (n + 1) n F xb xo c k w (by omega) rfl (by omega) p0
  · rw [hq] at p0
    exact sMerge_true (n + 1) n F xb xo c k w (by omega) rfl (by omega) p0

end Go.Proofs.Yteplffphkakliaa.Dm5
