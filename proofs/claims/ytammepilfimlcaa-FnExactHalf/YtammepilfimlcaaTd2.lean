/- The model's functions over tables: not, both, half. -/
import Derived.Test.YtammepilfimlcaaTd1
namespace Go.Proofs.Ytammepilfimlcaa.Td2
open Go.RowKit
open Ta0 Ta1 Tc2 Tc5 Ap9 Td1
open Nd0 (Kept set_other set_same lt_of_cell)
open Ss0 (bs bs_size ret_str bs_ext)
open Ss1 (tl tl_length tl_get tl_take bs_tl tl_bs tl_inj eqb)
set_option linter.unusedVariables false

theorem _root_.Go.Proofs.Ytammepilfimlcaa.Ap9.Owu.text {W : World} {B : Nat} {v : Value} {l : List UInt8} (h : Owu W B v l) (hl : 1 ≤ l.length) : (convert 57 9 v).run Try.prog W = .ok (.string (bs l)) W := by
  obtain ⟨a, c, rfl, hw⟩ := h.form
  rcases hw.2 with h0 | ⟨b, o, rfl, _, hc⟩
  · omega
  · exact run_convert_bytes_back (P := Try.prog) W 57 9 5 ⟨b, o, none⟩ c l Try.underlying57 Try.underlying5 Try.underlying9 (fun j hj => by rw [Addr.add_lit]; exact (hc j hj).1)

/-- The first k signs. -/
def tk (n : Nat) (G : Nat → Bool) (k : Nat) : List UInt8 := (tab n G).take k
theorem tk_zero (n : Nat) (G : Nat → Bool) : tk n G 0 = [] := rfl
theorem tk_len {n : Nat} {G : Nat → Bool} {k : Nat} (h : k ≤ 2 ^ n) : (tk n G k).length = k := by unfold tk; rw [List.length_take, tab_length]; omega
theorem tk_succ {n : Nat} {G : Nat → Bool} {k : Nat} (h : k < 2 ^ n) : tk n G (k + 1) = tk n G k ++ [sgn (G k)] := by
  unfold tk
  rw [List.take_succ_eq_append_getElem (by rw [tab_length]; exact h), tab_get]
theorem tk_all (n : Nat) (G : Nat → Bool) : tk n G (2 ^ n) = tab n G := by unfold tk; rw [List.take_of_length_le (by rw [tab_length]; omega)]

/-- What stands while a table is written. -/
structure OT (w : World) (B r : Nat) (N : Int) (S : ByteArray) (v : Value) (l : List UInt8) (W : World) : Prop where
  lay : Lay W B (.int .i64 N) (.string S)
  res : Lay W r (.int .i64 0) (.string ByteArray.empty)
  own : Owu W (r + 1) v l
  siz : r + 1 ≤ W.heap.size
  bel : Below w.heap.size w W
theorem OT.next {w W W' : World} {B r : Nat} {N : Int} {S : ByteArray} {v v' : Value} {l l' : List UInt8} (h : OT w B r N S v l W) (hB : B < r + 1) (hw : w.heap.size ≤ r) (hk : Kept (fun k => v.ownBlock = some k) W W') (ho : Owu W' (r + 1) v' l') : OT w B r N S v' l' W' :=
  ⟨h.lay.kept hk (fun e => by have := (h.own.lt _ e).1; omega), h.res.kept hk (fun e => by have := (h.own.lt _ e).1; omega), ho, by have := hk.size; have := h.siz; omega, h.bel.trans (hk.below (fun b hb => by have := (h.own.lt _ hb).1; omega) h.bel.size)⟩

theorem finT {w W : World} {r : Nat} {a b : Value} (hr : Lay W r a b) (hb : Below w.heap.size w W) (hw : w.heap.size ≤ r) (x y : Value) :
    ∃ W', W' = (W.setCell ⟨r, 0, none⟩ x).setCell ⟨r, 1, none⟩ y ∧ Lay W' r x y ∧ Below w.heap.size w W' := by
  have K : Kept (fun b => b = r) W ((W.setCell ⟨r, 0, none⟩ x).setCell ⟨r, 1, none⟩ y) := kset (S := fun b => b = r) (kset (S := fun b => b = r) (Kept.refl (fun b => b = r) W) rfl _) rfl _
  exact ⟨_, rfl, hr.put x y, hb.trans (K.below (fun b hb => by omega) hb.size)⟩

set_option maxHeartbeats 1000000 in
theorem sNot0 {N : Int} {S : ByteArray} (w : World) (hS : S.size ≤ 1048576) (h : tokB N (tl S) = false) :
    Calls Try.prog 29 #[tv N S] w fun e w' => e = .returned (tv 0 ByteArray.empty) ∧ Below w.heap.size w w' := by
  have HO : Hid (∀ W, Calls Try.prog 13 #[tv N S] W fun e w' => e = .returned (.bool false) ∧ Below W.heap.size W w') := fun W => sOk0 W hS h
  have HA : Hid (Below w.heap.size w ((w.alloc (.cells #[.int .i64 N, .string S] 26)).alloc (.cells #[.int .i64 0, .string ByteArray.empty] 26))) := ((Below.refl _ _).alloc (Nat.le_refl _) _).alloc (by simp) _
  have HX : Hid (Lay ((w.alloc (.cells #[.int .i64 N, .string S] 26)).alloc (.cells #[.int .i64 0, .string ByteArray.empty] 26)) w.heap.size (.int .i64 N) (.string S)) := (Lay.made _ _ _ _).alloc _
  have HR : Hid (Lay ((w.alloc (.cells #[.int .i64 N, .string S] 26)).alloc (.cells #[.int .i64 0, .string ByteArray.empty] 26)) (w.heap.size + 1) (.int .i64 0) (.string ByteArray.empty)) := by
    have := Lay.made (w.alloc (.cells #[.int .i64 N, .string S] 26)) (.int .i64 0) (.string ByteArray.empty) 26
    show Lay _ _ _ _
    simpa using this
  clear h
  go_enter Try.func29, Try.ntmps29
  go_wp2_with fail
  refine (HO.out _).mono ?_
  rintro e w1 ⟨rfl, hb⟩
  have HA1 : Hid (Below w.heap.size w w1) := HA.out.trans (hb.mono HA.out.size)
  have HR1 : Hid (Lay w1 (w.heap.size + 1) (.int .i64 0) (.string ByteArray.empty)) := HR.out.below hb
  clear hb
  obtain ⟨r0, r1, r2, r3⟩ := HR1.out
  have HFN : Hid _ := finT HR1.out HA1.out (by omega) (.int .i64 0) (.string ⟨#[]⟩)
  go_wp2
  obtain ⟨W, hW, hz, hbz⟩ := HFN.out
  rw [← hW]
  obtain ⟨z0, z1, _, _⟩ := hz
  exact bodyPost_ret (v := tv 0 ⟨#[]⟩) (by simp [results, Try.results29, go_sem, z0, z1]) rfl ⟨rfl, hbz⟩

set_option maxRecDepth 100000 in
set_option maxHeartbeats 2000000 in
theorem sNot (n : Nat) (F : Nat → Bool) (w : World) (hn : n ≤ 12) :
    Calls Try.prog 29 #[tv (n : Int) (bs (tab n F))] w fun e w' => e = .returned (tv (n : Int) (bs (tab n fun p => !F p))) ∧ Below w.heap.size w w' := by
  have HO : Hid (∀ W, Calls Try.prog 13 #[tv (n : Int) (bs (tab n F))] W fun e w' => e = .returned (.bool true) ∧ Below W.heap.size W w') := fun W => sOk1 n F W hn
  obtain ⟨hp, hl⟩ := p12 hn
  have HG : Hid (Sg (bs (tab n F)) (2 ^ n) F) := sg_tab n F
  obtain ⟨G, hG⟩ : ∃ G : Nat → Bool, G = fun p => !F p := ⟨_, rfl⟩
  have HGF : Hid (∀ p, G p = !F p) := fun p => by rw [hG]
  rw [← hG]
  clear hG
  have HT0 : Hid (tk n G 0 = []) := rfl
  have HTL : Hid (∀ k, k ≤ 2 ^ n → (tk n G k).length = k) := fun k h => tk_len h
  have HTS : Hid (∀ k, k < 2 ^ n → tk n G (k + 1) = tk n G k ++ [sgn (G k)]) := fun k h => tk_succ h
  have HTA : Hid (bs (tk n G (2 ^ n)) = bs (tab n G)) := by show _ = _; rw [tk_all]
  generalize bs (tab n G) = RS at *
  generalize tk n G = TK at *
  generalize bs (tab n F) = S at *
  generalize 2 ^ n = P at *
  have hSP : S.size ≤ 4096 := by rw [HG.out.size]; exact hl
  have HA : Hid (Below w.heap.size w ((w.alloc (.cells #[.int .i64 (n : Int), .string S] 26)).alloc (.cells #[.int .i64 0, .string ByteArray.empty] 26))) := ((Below.refl _ _).alloc (Nat.le_refl _) _).alloc (by simp) _
  have HX : Hid (Lay ((w.alloc (.cells #[.int .i64 (n : Int), .string S] 26)).alloc (.cells #[.int .i64 0, .string ByteArray.empty] 26)) w.heap.size (.int .i64 (n : Int)) (.string S)) := (Lay.made _ _ _ _).alloc _
  have HR : Hid (Lay ((w.alloc (.cells #[.int .i64 (n : Int), .string S] 26)).alloc (.cells #[.int .i64 0, .string ByteArray.empty] 26)) (w.heap.size + 1) (.int .i64 0) (.string ByteArray.empty)) := by
    have := Lay.made (w.alloc (.cells #[.int .i64 (n : Int), .string S] 26)) (.int .i64 0) (.string ByteArray.empty) 26
    show Lay _ _ _ _
    simpa using this
  go_enter Try.func29, Try.ntmps29
  go_wp2_with fail
  refine (HO.out _).mono ?_
  rintro e w1 ⟨rfl, hb⟩
  have HA1 : Hid (Below w.heap.size w w1) := HA.out.trans (hb.mono HA.out.size)
  have HX1 : Hid (Lay w1 w.heap.size (.int .i64 (n : Int)) (.string S)) := HX.out.below hb
  have HR1 : Hid (Lay w1 (w.heap.size + 1) (.int .i64 0) (.string ByteArray.empty)) := HR.out.below hb
  clear hb
  have hw1 := HR1.out.lt
  have HOT : Hid (OT w w.heap.size (w.heap.size + 1) (n : Int) S (.slice (some ⟨w1.heap.size, 0, none⟩) 0 0) (TK 0) (w1.alloc (.cells #[] 5))) :=
    ⟨HX1.out.alloc _, HR1.out.alloc _, by rw [HT0.out]; exact Owu.lit w1 _ (by omega), by simp; omega, HA1.out.alloc HA1.out.size _⟩
  obtain ⟨x0, x1, _, _⟩ := HX1.out
  go_wp2
  clear x0 x1
  go_loopw [3, 4] (fun v i wr => ∃ k : Nat, k ≤ P ∧ i = .int .i64 k ∧ OT w w.heap.size (w.heap.size + 1) (n : Int) S v (TK k) wr) (fun _ i _ => P - (intOf i).toNat)
  case atStart => exact ⟨0, Nat.zero_le _, rfl, HOT.out⟩
  case round =>
    obtain ⟨k, hk, rfl, hot⟩ := hrel
    have HS : Hid (OT w w.heap.size (w.heap.size + 1) (n : Int) S u3 (TK k) wr) := hot
    clear hot
    obtain ⟨x0, x1, _, _⟩ := HS.out.lay
    have hsz := HS.out.siz
    by_cases hlt : k < P
    · have hks : k < S.size := by rw [HG.out.size]; exact hlt
      have hkz : (k : Int) < (S.size : Int) := by omega
      have h9 := HG.out.at_ k hks
      have HGk := HGF.out k
      have HTK := HTS.out k hlt
      have HLN := HTL.out k hk
      cases hF : F k
      all_goals
        rw [hF] at h9 HGk
        rw [HGk] at HTK
        clear hF HGk
        have HT : Hid (TK (k + 1) = TK k ++ [sgn _]) := HTK
        have HL : Hid ((TK k).length = k) := HLN
        clear HTK HLN
        simp only [Bool.toNat_false, Bool.toNat_true, Int.natCast_zero, Int.natCast_one] at h9
        go_wp2_with (at_builtin; go_must (refine app_byte _ rfl _ _ rfl (w.heap.size + 1 + 1) u3 (TK k) (sgn _) _ (by first | exact show (49 : Int) = ((sgn true).toNat : Int) from rfl | exact show (48 : Int) = ((sgn false).toNat : Int) from rfl) rfl rfl HS.out.own hsz (by rw [HL.out]; omega) ?_; intro g5 cp5 w5 ho5 hk5 hg5; have HO5 : Hid (OT w w.heap.size (w.heap.size + 1) (n : Int) S (.slice (some ⟨g5, 0, none⟩) ((TK k).length + 1) cp5) (TK k ++ [sgn _]) w5) := HS.out.next (by omega) (by omega) hk5 ho5; clear ho5 hk5 hg5))
        go_roundw
        case rel => exact ⟨k + 1, by omega, by go_num, by rw [HT.out]; exact HO5.out⟩
        case measure => simp [intOf]; omega
    · have hkP : k = P := by omega
      have HSP : Hid (OT w w.heap.size (w.heap.size + 1) (n : Int) S u3 (TK P) wr) := by have h := HS.out; rw [hkP] at h; exact h
      have hPs : ¬ (P : Int) < (S.size : Int) := by have := HG.out.size; omega
      have hks : ¬ (k : Int) < (S.size : Int) := by have := HG.out.size; omega
      have hcv : (convert 57 9 u3).run Try.prog wr = .ok (.string RS) wr := by
        have := HSP.out.own.text (by rw [HTL.out P (Nat.le_refl _)]; exact hp)
        rw [HTA.out] at this
        exact this
      obtain ⟨r0, r1, r2, r3⟩ := HSP.out.res
      have HFN : Hid _ := finT HSP.out.res HSP.out.bel (by omega) (.int .i64 (n : Int)) (.string RS)
      clear hkP
      obtain ⟨av, cv, hv, _⟩ := HSP.out.own.form
      subst hv
      go_wp2
      obtain ⟨W, hW, hz, hbz⟩ := HFN.out
      rw [← hW]
      obtain ⟨z0, z1, _, _⟩ := hz
      exact bodyPost_ret (v := tv (n : Int) RS) (by simp [results, Try.results29, go_sem, z0, z1]) rfl ⟨rfl, hbz⟩

end Go.Proofs.Ytammepilfimlcaa.Td2
