/- The model's functions over tables: both. -/
import Derived.Test.YtkcbonocbdfbcaaDoorTd2
namespace Go.Proofs.YtkcbonocbdfbcaaDoor.Td3
open Go.RowKit
open Ta0 Ta1 Tc2 Tc5 Ap9 Td1 Td2
open Nd0 (Kept set_other set_same lt_of_cell)
open Ss0 (bs bs_size ret_str bs_ext)
open Ss1 (tl tl_length tl_get tl_take bs_tl tl_bs tl_inj eqb)
set_option linter.unusedVariables false

/-- What stands while a table is written out of two. -/
structure OB (w : World) (N : Int) (S T : ByteArray) (v : Value) (l : List UInt8) (W : World) : Prop where
  lay : Lay W w.heap.size (.int .i64 N) (.string S)
  lay2 : Lay W (w.heap.size + 1) (.int .i64 N) (.string T)
  res : Lay W (w.heap.size + 1 + 1) (.int .i64 0) (.string ByteArray.empty)
  own : Owu W (w.heap.size + 1 + 1 + 1) v l
  siz : w.heap.size + 1 + 1 + 1 ≤ W.heap.size
  bel : Below w.heap.size w W
theorem OB.next {w W W' : World} {N : Int} {S T : ByteArray} {v v' : Value} {l l' : List UInt8} (h : OB w N S T v l W) (hk : Kept (fun k => v.ownBlock = some k) W W') (ho : Owu W' (w.heap.size + 1 + 1 + 1) v' l') : OB w N S T v' l' W' :=
  ⟨h.lay.kept hk (fun e => by have := (h.own.lt _ e).1; omega), h.lay2.kept hk (fun e => by have := (h.own.lt _ e).1; omega), h.res.kept hk (fun e => by have := (h.own.lt _ e).1; omega), ho, by have := hk.size; have := h.siz; omega, h.bel.trans (hk.below (fun b hb => by have := (h.own.lt _ hb).1; omega) h.bel.size)⟩
theorem OB.drewN {w W : World} {N : Int} {S T : ByteArray} {v : Value} {l : List UInt8} (h : OB w N S T v l W) (n : Nat) : OB w N S T v l (W.drewN n) :=
  ⟨h.lay.kept (S := fun _ => False) ((Kept.refl _ _).drewN n) (fun h => h), h.lay2.kept (S := fun _ => False) ((Kept.refl _ _).drewN n) (fun h => h), h.res.kept (S := fun _ => False) ((Kept.refl _ _).drewN n) (fun h => h), h.own.kept (S := fun _ => False) ((Kept.refl _ _).drewN n) (fun _ _ h => h), h.siz, below_drewN h.bel n⟩

set_option maxHeartbeats 2000000 in
theorem sBoth0 {N M : Int} {S T : ByteArray} {fl : Bool} (w : World) (hS : S.size ≤ 1048576) (hT : T.size ≤ 1048576) (h : ¬ (tokB N (tl S) = true ∧ tokB M (tl T) = true ∧ N = M)) :
    Calls Tryd.prog 39 #[tv N S, tv M T, .bool fl] w fun e w' => e = .returned (.tuple #[tv 0 ByteArray.empty, .bool false]) ∧ Below w.heap.size w w' := by
  have HA : Hid (Below w.heap.size w (((w.alloc (.cells #[.int .i64 N, .string S] 25)).alloc (.cells #[.int .i64 M, .string T] 25)).alloc (.cells #[.int .i64 0, .string ByteArray.empty] 25))) := (((Below.refl _ _).alloc (Nat.le_refl _) _).alloc (by simp) _).alloc (by simp; omega) _
  have HX : Hid (Lay (((w.alloc (.cells #[.int .i64 N, .string S] 25)).alloc (.cells #[.int .i64 M, .string T] 25)).alloc (.cells #[.int .i64 0, .string ByteArray.empty] 25)) w.heap.size (.int .i64 N) (.string S)) := ((Lay.made _ _ _ _).alloc _).alloc _
  have HY : Hid (Lay (((w.alloc (.cells #[.int .i64 N, .string S] 25)).alloc (.cells #[.int .i64 M, .string T] 25)).alloc (.cells #[.int .i64 0, .string ByteArray.empty] 25)) (w.heap.size + 1) (.int .i64 M) (.string T)) := by
    have := (Lay.made (w.alloc (.cells #[.int .i64 N, .string S] 25)) (.int .i64 M) (.string T) 25).alloc (.cells #[.int .i64 0, .string ByteArray.empty] 25)
    show Lay _ _ _ _
    simpa using this
  have HR : Hid (Lay (((w.alloc (.cells #[.int .i64 N, .string S] 25)).alloc (.cells #[.int .i64 M, .string T] 25)).alloc (.cells #[.int .i64 0, .string ByteArray.empty] 25)) (w.heap.size + 1 + 1) (.int .i64 0) (.string ByteArray.empty)) := by
    have := Lay.made ((w.alloc (.cells #[.int .i64 N, .string S] 25)).alloc (.cells #[.int .i64 M, .string T] 25)) (.int .i64 0) (.string ByteArray.empty) 25
    show Lay _ _ _ _
    simpa using this
  cases h1 : tokB N (tl S)
  · have HO : Hid (∀ W, Calls Tryd.prog 8 #[tv N S] W fun e w' => e = .returned (.bool false) ∧ Below W.heap.size W w') := fun W => sOk0 W hS h1
    clear h h1
    go_enter Tryd.func39, Tryd.ntmps39
    go_wp2_with fail
    refine (HO.out _).mono ?_
    rintro e w1 ⟨rfl, hb⟩
    have HA1 : Hid (Below w.heap.size w w1) := HA.out.trans (hb.mono HA.out.size)
    have HX1 : Hid (Lay w1 w.heap.size (.int .i64 N) (.string S)) := HX.out.below hb
    have HY1 : Hid (Lay w1 (w.heap.size + 1) (.int .i64 M) (.string T)) := HY.out.below hb
    have HR1 : Hid (Lay w1 (w.heap.size + 1 + 1) (.int .i64 0) (.string ByteArray.empty)) := HR.out.below hb
    clear hb
    obtain ⟨r0, r1, r2, r3⟩ := HR1.out
    have HFN : Hid _ := finT HR1.out HA1.out (by omega) (.int .i64 0) (.string ⟨#[]⟩)
    go_wp2
    obtain ⟨W, hW, hz, hbz⟩ := HFN.out
    have hW2 : (w1.setCell ⟨w.heap.size + 1 + 1, 0, none⟩ (.int .i64 0)).setCell ⟨w.heap.size + 1 + 1, 1, none⟩ (.string ⟨#[]⟩) = W := hW.symm
    rw [hW2]
    obtain ⟨z0, z1, _, _⟩ := hz
    exact bodyPost_ret (v := .tuple #[tv 0 ⟨#[]⟩, .bool false]) (by simp [results, Tryd.results39, go_sem, z0, z1]) rfl ⟨rfl, hbz⟩
  have HO : Hid (∀ W, Calls Tryd.prog 8 #[tv N S] W fun e w' => e = .returned (.bool true) ∧ Below W.heap.size W w') := fun W => by
    have := sTableOk N S W hS
    rwa [h1] at this
  cases h2 : tokB M (tl T)
  · have HP : Hid (∀ W, Calls Tryd.prog 8 #[tv M T] W fun e w' => e = .returned (.bool false) ∧ Below W.heap.size W w') := fun W => sOk0 W hT h2
    clear h h1 h2
    go_enter Tryd.func39, Tryd.ntmps39
    go_wp2_with fail
    refine (HO.out _).mono ?_
    rintro e w1 ⟨rfl, hb⟩
    have HA1 : Hid (Below w.heap.size w w1) := HA.out.trans (hb.mono HA.out.size)
    have HX1 : Hid (Lay w1 w.heap.size (.int .i64 N) (.string S)) := HX.out.below hb
    have HY1 : Hid (Lay w1 (w.heap.size + 1) (.int .i64 M) (.string T)) := HY.out.below hb
    have HR1 : Hid (Lay w1 (w.heap.size + 1 + 1) (.int .i64 0) (.string ByteArray.empty)) := HR.out.below hb
    clear hb
    obtain ⟨x0, x1, _, _⟩ := HX1.out
    obtain ⟨y0, y1, _, _⟩ := HY1.out
    go_wp2_with fail
    refine (HP.out _).mono ?_
    rintro e w2 ⟨rfl, hb⟩
    have HA2 : Hid (Below w.heap.size w w2) := HA1.out.trans (hb.mono HA1.out.size)
    have HX2 : Hid (Lay w2 w.heap.size (.int .i64 N) (.string S)) := HX1.out.below hb
    have HY2 : Hid (Lay w2 (w.heap.size + 1) (.int .i64 M) (.string T)) := HY1.out.below hb
    have HR2 : Hid (Lay w2 (w.heap.size + 1 + 1) (.int .i64 0) (.string ByteArray.empty)) := HR1.out.below hb
    clear hb
    clear x0 x1 y0 y1
    obtain ⟨r0, r1, r2, r3⟩ := HR2.out
    have HFN : Hid _ := finT HR2.out HA2.out (by omega) (.int .i64 0) (.string ⟨#[]⟩)
    go_wp2
    obtain ⟨W, hW, hz, hbz⟩ := HFN.out
    have hW2 : (w2.setCell ⟨w.heap.size + 1 + 1, 0, none⟩ (.int .i64 0)).setCell ⟨w.heap.size + 1 + 1, 1, none⟩ (.string ⟨#[]⟩) = W := hW.symm
    rw [hW2]
    obtain ⟨z0, z1, _, _⟩ := hz
    exact bodyPost_ret (v := .tuple #[tv 0 ⟨#[]⟩, .bool false]) (by simp [results, Tryd.results39, go_sem, z0, z1]) rfl ⟨rfl, hbz⟩
  · have HP : Hid (∀ W, Calls Tryd.prog 8 #[tv M T] W fun e w' => e = .returned (.bool true) ∧ Below W.heap.size W w') := fun W => by
      have := sTableOk M T W hT
      rwa [h2] at this
    have hNM : (N != M) = true := bne_iff_ne.2 fun e => h ⟨h1, h2, e⟩
    clear h h1 h2
    go_enter Tryd.func39, Tryd.ntmps39
    go_wp2_with fail
    refine (HO.out _).mono ?_
    rintro e w1 ⟨rfl, hb⟩
    have HA1 : Hid (Below w.heap.size w w1) := HA.out.trans (hb.mono HA.out.size)
    have HX1 : Hid (Lay w1 w.heap.size (.int .i64 N) (.string S)) := HX.out.below hb
    have HY1 : Hid (Lay w1 (w.heap.size + 1) (.int .i64 M) (.string T)) := HY.out.below hb
    have HR1 : Hid (Lay w1 (w.heap.size + 1 + 1) (.int .i64 0) (.string ByteArray.empty)) := HR.out.below hb
    clear hb
    obtain ⟨x0, x1, _, _⟩ := HX1.out
    obtain ⟨y0, y1, _, _⟩ := HY1.out
    go_wp2_with fail
    refine (HP.out _).mono ?_
    rintro e w2 ⟨rfl, hb⟩
    have HA2 : Hid (Below w.heap.size w w2) := HA1.out.trans (hb.mono HA1.out.size)
    have HX2 : Hid (Lay w2 w.heap.size (.int .i64 N) (.string S)) := HX1.out.below hb
    have HY2 : Hid (Lay w2 (w.heap.size + 1) (.int .i64 M) (.string T)) := HY1.out.below hb
    have HR2 : Hid (Lay w2 (w.heap.size + 1 + 1) (.int .i64 0) (.string ByteArray.empty)) := HR1.out.below hb
    clear hb
    clear x0 x1 y0 y1
    obtain ⟨x0, x1, _, _⟩ := HX2.out
    obtain ⟨y0, y1, _, _⟩ := HY2.out
    obtain ⟨r0, r1, r2, r3⟩ := HR2.out
    have HFN : Hid _ := finT HR2.out HA2.out (by omega) (.int .i64 0) (.string ⟨#[]⟩)
    go_wp2
    obtain ⟨W, hW, hz, hbz⟩ := HFN.out
    have hW2 : (w2.setCell ⟨w.heap.size + 1 + 1, 0, none⟩ (.int .i64 0)).setCell ⟨w.heap.size + 1 + 1, 1, none⟩ (.string ⟨#[]⟩) = W := hW.symm
    rw [hW2]
    obtain ⟨z0, z1, _, _⟩ := hz
    exact bodyPost_ret (v := .tuple #[tv 0 ⟨#[]⟩, .bool false]) (by simp [results, Tryd.results39, go_sem, z0, z1]) rfl ⟨rfl, hbz⟩

set_option maxRecDepth 100000 in
set_option maxHeartbeats 4000000 in
theorem sBothAnd (n : Nat) (F G : Nat → Bool) (w : World) (hn : n ≤ 12) :
    Calls Tryd.prog 39 #[tv (n : Int) (bs (tab n F)), tv (n : Int) (bs (tab n G)), .bool true] w fun e w' => e = .returned (.tuple #[tv (n : Int) (bs (tab n fun p => F p && G p)), .bool true]) ∧ Below w.heap.size w w' := by
  have HO : Hid (∀ W, Calls Tryd.prog 8 #[tv (n : Int) (bs (tab n F))] W fun e w' => e = .returned (.bool true) ∧ Below W.heap.size W w') := fun W => sOk1 n F W hn
  have HP : Hid (∀ W, Calls Tryd.prog 8 #[tv (n : Int) (bs (tab n G))] W fun e w' => e = .returned (.bool true) ∧ Below W.heap.size W w') := fun W => sOk1 n G W hn
  obtain ⟨hp, hl⟩ := p12 hn
  have HG : Hid (Sg (bs (tab n F)) (2 ^ n) F) := sg_tab n F
  have HG2 : Hid (Sg (bs (tab n G)) (2 ^ n) G) := sg_tab n G
  obtain ⟨H, hH⟩ : ∃ H : Nat → Bool, H = fun p => F p && G p := ⟨_, rfl⟩
  have HHF : Hid (∀ p, H p = (F p && G p)) := fun p => by rw [hH]
  rw [← hH]
  clear hH
  have HT0 : Hid (tk n H 0 = []) := rfl
  have HTL : Hid (∀ k, k ≤ 2 ^ n → (tk n H k).length = k) := fun k h => tk_len h
  have HTS : Hid (∀ k, k < 2 ^ n → tk n H (k + 1) = tk n H k ++ [sgn (H k)]) := fun k h => tk_succ h
  have HTA : Hid (bs (tk n H (2 ^ n)) = bs (tab n H)) := by show _ = _; rw [tk_all]
  generalize bs (tab n H) = RS at *
  generalize tk n H = TK at *
  generalize bs (tab n F) = S at *
  generalize bs (tab n G) = T at *
  generalize 2 ^ n = P at *
  have hSP : S.size ≤ 4096 := by rw [HG.out.size]; exact hl
  have hTP : T.size ≤ 4096 := by rw [HG2.out.size]; exact hl
  have hNM : ((n : Int) != (n : Int)) = false := by simp
  have HA : Hid (Below w.heap.size w (((w.alloc (.cells #[.int .i64 (n : Int), .string S] 25)).alloc (.cells #[.int .i64 (n : Int), .string T] 25)).alloc (.cells #[.int .i64 0, .string ByteArray.empty] 25))) := (((Below.refl _ _).alloc (Nat.le_refl _) _).alloc (by simp) _).alloc (by simp; omega) _
  have HX : Hid (Lay (((w.alloc (.cells #[.int .i64 (n : Int), .string S] 25)).alloc (.cells #[.int .i64 (n : Int), .string T] 25)).alloc (.cells #[.int .i64 0, .string ByteArray.empty] 25)) w.heap.size (.int .i64 (n : Int)) (.string S)) := ((Lay.made _ _ _ _).alloc _).alloc _
  have HY : Hid (Lay (((w.alloc (.cells #[.int .i64 (n : Int), .string S] 25)).alloc (.cells #[.int .i64 (n : Int), .string T] 25)).alloc (.cells #[.int .i64 0, .string ByteArray.empty] 25)) (w.heap.size + 1) (.int .i64 (n : Int)) (.string T)) := by
    have := (Lay.made (w.alloc (.cells #[.int .i64 (n : Int), .string S] 25)) (.int .i64 (n : Int)) (.string T) 25).alloc (.cells #[.int .i64 0, .string ByteArray.empty] 25)
    show Lay _ _ _ _
    simpa using this
  have HR : Hid (Lay (((w.alloc (.cells #[.int .i64 (n : Int), .string S] 25)).alloc (.cells #[.int .i64 (n : Int), .string T] 25)).alloc (.cells #[.int .i64 0, .string ByteArray.empty] 25)) (w.heap.size + 1 + 1) (.int .i64 0) (.string ByteArray.empty)) := by
    have := Lay.made ((w.alloc (.cells #[.int .i64 (n : Int), .string S] 25)).alloc (.cells #[.int .i64 (n : Int), .string T] 25)) (.int .i64 0) (.string ByteArray.empty) 25
    show Lay _ _ _ _
    simpa using this
  go_enter Tryd.func39, Tryd.ntmps39
  go_wp2_with fail
  refine (HO.out _).mono ?_
  rintro e w1 ⟨rfl, hb⟩
  have HA1 : Hid (Below w.heap.size w w1) := HA.out.trans (hb.mono HA.out.size)
  have HX1 : Hid (Lay w1 w.heap.size (.int .i64 (n : Int)) (.string S)) := HX.out.below hb
  have HY1 : Hid (Lay w1 (w.heap.size + 1) (.int .i64 (n : Int)) (.string T)) := HY.out.below hb
  have HR1 : Hid (Lay w1 (w.heap.size + 1 + 1) (.int .i64 0) (.string ByteArray.empty)) := HR.out.below hb
  clear hb
  obtain ⟨x0, x1, _, _⟩ := HX1.out
  obtain ⟨y0, y1, _, _⟩ := HY1.out
  go_wp2_with fail
  refine (HP.out _).mono ?_
  rintro e w2 ⟨rfl, hb⟩
  have HA2 : Hid (Below w.heap.size w w2) := HA1.out.trans (hb.mono HA1.out.size)
  have HX2 : Hid (Lay w2 w.heap.size (.int .i64 (n : Int)) (.string S)) := HX1.out.below hb
  have HY2 : Hid (Lay w2 (w.heap.size + 1) (.int .i64 (n : Int)) (.string T)) := HY1.out.below hb
  have HR2 : Hid (Lay w2 (w.heap.size + 1 + 1) (.int .i64 0) (.string ByteArray.empty)) := HR1.out.below hb
  clear hb
  clear x0 x1 y0 y1
  have hw2 := HR2.out.lt
  have HOT : Hid (OB w (n : Int) S T (.slice (some ⟨w2.heap.size, 0, none⟩) 0 0) (TK 0) (w2.alloc (.cells #[] 5))) :=
    ⟨HX2.out.alloc _, HY2.out.alloc _, HR2.out.alloc _, by rw [HT0.out]; exact Owu.lit w2 _ (by omega), by simp; omega, HA2.out.alloc HA2.out.size _⟩
  obtain ⟨x0, x1, _, _⟩ := HX2.out
  obtain ⟨y0, y1, _, _⟩ := HY2.out
  go_wp2
  clear x0 x1 y0 y1
  go_loopw [8, 9] (fun v i wr => ∃ k : Nat, k ≤ P ∧ i = .int .i64 k ∧ OB w (n : Int) S T v (TK k) wr) (fun _ i _ => P - (intOf i).toNat)
  case atStart => exact ⟨0, Nat.zero_le _, rfl, HOT.out⟩
  case round =>
    obtain ⟨k, hk, rfl, hot⟩ := hrel
    have HS : Hid (OB w (n : Int) S T u8 (TK k) wr) := hot
    clear hot
    obtain ⟨x0, x1, _, _⟩ := HS.out.lay
    obtain ⟨y0, y1, _, _⟩ := HS.out.lay2
    by_cases hlt : k < P
    · have hks : k < S.size := by rw [HG.out.size]; exact hlt
      have hkt : k < T.size := by rw [HG2.out.size]; exact hlt
      have hkz : (k : Int) < (S.size : Int) := by omega
      have hkz2 : (k : Int) < (T.size : Int) := by omega
      have h9 := HG.out.at_ k hks
      have h8 := HG2.out.at_ k hkt
      have HHk := HHF.out k
      have HTK := HTS.out k hlt
      have HLN := HTL.out k hk
      have ba00 : bits .and .u8 0 0 = 0 := by decide
      have ba01 : bits .and .u8 0 1 = 0 := by decide
      have ba10 : bits .and .u8 1 0 = 0 := by decide
      have ba11 : bits .and .u8 1 1 = 1 := by decide
      cases hF : F k <;> cases hG : G k
      all_goals
        rw [hF] at h9 HHk
        rw [hG] at h8 HHk
        rw [HHk] at HTK
        clear hF hG HHk
        have HT : Hid (TK (k + 1) = TK k ++ [sgn _]) := HTK
        have HL : Hid ((TK k).length = k) := HLN
        clear HTK HLN
        simp only [Bool.toNat_false, Bool.toNat_true, Int.natCast_zero, Int.natCast_one] at h9 h8
        go_wp2_with fail
        go_quiet (fail)
        have HSq : Hid (OB w (n : Int) S T u8 (TK k) (wr.drewN nq)) := HS.out.drewN nq
        have hsz : w.heap.size + 1 + 1 + 1 ≤ (wr.drewN nq).heap.size := HSq.out.siz
        generalize wr.drewN nq = wq at *
        go_wp2_with (at_builtin; go_must (refine app_byte _ rfl _ _ rfl (w.heap.size + 1 + 1 + 1) u8 (TK k) (sgn _) _ (by first | exact show (49 : Int) = ((sgn true).toNat : Int) from rfl | exact show (48 : Int) = ((sgn false).toNat : Int) from rfl) rfl rfl HSq.out.own hsz (by rw [HL.out]; omega) ?_; intro g5 cp5 w5 ho5 hk5 hg5; have HO5 : Hid (OB w (n : Int) S T (.slice (some ⟨g5, 0, none⟩) ((TK k).length + 1) cp5) (TK k ++ [sgn _]) w5) := HSq.out.next hk5 ho5; clear ho5 hk5 hg5))
        go_roundw
        case rel => exact ⟨k + 1, by omega, by go_num, by rw [HT.out]; exact HO5.out⟩
        case measure => simp [intOf]; omega
    · have hkP : k = P := by omega
      have HSP : Hid (OB w (n : Int) S T u8 (TK P) wr) := by have h := HS.out; rw [hkP] at h; exact h
      have hks : ¬ (k : Int) < (S.size : Int) := by have := HG.out.size; omega
      have hcv : (convert 22 9 u8).run Tryd.prog wr = .ok (.string RS) wr := by
        have := HSP.out.own.text (by rw [HTL.out P (Nat.le_refl _)]; exact hp)
        rw [HTA.out] at this
        exact this
      obtain ⟨r0, r1, r2, r3⟩ := HSP.out.res
      have HFN : Hid _ := finT HSP.out.res HSP.out.bel (by omega) (.int .i64 (n : Int)) (.string RS)
      clear hkP
      obtain ⟨av, cv, hv, _⟩ := HSP.out.own.form
      subst hv
      go_wp2
      obtain ⟨W, hW, hz, hbz⟩ := HFN.out
      have hW2 : (wr.setCell ⟨w.heap.size + 1 + 1, 0, none⟩ (.int .i64 (n : Int))).setCell ⟨w.heap.size + 1 + 1, 1, none⟩ (.string RS) = W := hW.symm
      rw [hW2]
      obtain ⟨z0, z1, _, _⟩ := hz
      exact bodyPost_ret (v := .tuple #[tv (n : Int) RS, .bool true]) (by simp [results, Tryd.results39, go_sem, z0, z1]) rfl ⟨rfl, hbz⟩

set_option maxRecDepth 100000 in
set_option maxHeartbeats 4000000 in
theorem sBothXor (n : Nat) (F G : Nat → Bool) (w : World) (hn : n ≤ 12) :
    Calls Tryd.prog 39 #[tv (n : Int) (bs (tab n F)), tv (n : Int) (bs (tab n G)), .bool false] w fun e w' => e = .returned (.tuple #[tv (n : Int) (bs (tab n fun p => F p ^^ G p)), .bool true]) ∧ Below w.heap.size w w' := by
  have HO : Hid (∀ W, Calls Tryd.prog 8 #[tv (n : Int) (bs (tab n F))] W fun e w' => e = .returned (.bool true) ∧ Below W.heap.size W w') := fun W => sOk1 n F W hn
  have HP : Hid (∀ W, Calls Tryd.prog 8 #[tv (n : Int) (bs (tab n G))] W fun e w' => e = .returned (.bool true) ∧ Below W.heap.size W w') := fun W => sOk1 n G W hn
  obtain ⟨hp, hl⟩ := p12 hn
  have HG : Hid (Sg (bs (tab n F)) (2 ^ n) F) := sg_tab n F
  have HG2 : Hid (Sg (bs (tab n G)) (2 ^ n) G) := sg_tab n G
  obtain ⟨H, hH⟩ : ∃ H : Nat → Bool, H = fun p => F p ^^ G p := ⟨_, rfl⟩
  have HHF : Hid (∀ p, H p = (F p ^^ G p)) := fun p => by rw [hH]
  rw [← hH]
  clear hH
  have HT0 : Hid (tk n H 0 = []) := rfl
  have HTL : Hid (∀ k, k ≤ 2 ^ n → (tk n H k).length = k) := fun k h => tk_len h
  have HTS : Hid (∀ k, k < 2 ^ n → tk n H (k + 1) = tk n H k ++ [sgn (H k)]) := fun k h => tk_succ h
  have HTA : Hid (bs (tk n H (2 ^ n)) = bs (tab n H)) := by show _ = _; rw [tk_all]
  generalize bs (tab n H) = RS at *
  generalize tk n H = TK at *
  generalize bs (tab n F) = S at *
  generalize bs (tab n G) = T at *
  generalize 2 ^ n = P at *
  have hSP : S.size ≤ 4096 := by rw [HG.out.size]; exact hl
  have hTP : T.size ≤ 4096 := by rw [HG2.out.size]; exact hl
  have hNM : ((n : Int) != (n : Int)) = false := by simp
  have HA : Hid (Below w.heap.size w (((w.alloc (.cells #[.int .i64 (n : Int), .string S] 25)).alloc (.cells #[.int .i64 (n : Int), .string T] 25)).alloc (.cells #[.int .i64 0, .string ByteArray.empty] 25))) := (((Below.refl _ _).alloc (Nat.le_refl _) _).alloc (by simp) _).alloc (by simp; omega) _
  have HX : Hid (Lay (((w.alloc (.cells #[.int .i64 (n : Int), .string S] 25)).alloc (.cells #[.int .i64 (n : Int), .string T] 25)).alloc (.cells #[.int .i64 0, .string ByteArray.empty] 25)) w.heap.size (.int .i64 (n : Int)) (.string S)) := ((Lay.made _ _ _ _).alloc _).alloc _
  have HY : Hid (Lay (((w.alloc (.cells #[.int .i64 (n : Int), .string S] 25)).alloc (.cells #[.int .i64 (n : Int), .string T] 25)).alloc (.cells #[.int .i64 0, .string ByteArray.empty] 25)) (w.heap.size + 1) (.int .i64 (n : Int)) (.string T)) := by
    have := (Lay.made (w.alloc (.cells #[.int .i64 (n : Int), .string S] 25)) (.int .i64 (n : Int)) (.string T) 25).alloc (.cells #[.int .i64 0, .string ByteArray.empty] 25)
    show Lay _ _ _ _
    simpa using this
  have HR : Hid (Lay (((w.alloc (.cells #[.int .i64 (n : Int), .string S] 25)).alloc (.cells #[.int .i64 (n : Int), .string T] 25)).alloc (.cells #[.int .i64 0, .string ByteArray.empty] 25)) (w.heap.size + 1 + 1) (.int .i64 0) (.string ByteArray.empty)) := by
    have := Lay.made ((w.alloc (.cells #[.int .i64 (n : Int), .string S] 25)).alloc (.cells #[.int .i64 (n : Int), .string T] 25)) (.int .i64 0) (.string ByteArray.empty) 25
    show Lay _ _ _ _
    simpa using this
  go_enter Tryd.func39, Tryd.ntmps39
  go_wp2_with fail
  refine (HO.out _).mono ?_
  rintro e w1 ⟨rfl, hb⟩
  have HA1 : Hid (Below w.heap.size w w1) := HA.out.trans (hb.mono HA.out.size)
  have HX1 : Hid (Lay w1 w.heap.size (.int .i64 (n : Int)) (.string S)) := HX.out.below hb
  have HY1 : Hid (Lay w1 (w.heap.size + 1) (.int .i64 (n : Int)) (.string T)) := HY.out.below hb
  have HR1 : Hid (Lay w1 (w.heap.size + 1 + 1) (.int .i64 0) (.string ByteArray.empty)) := HR.out.below hb
  clear hb
  obtain ⟨x0, x1, _, _⟩ := HX1.out
  obtain ⟨y0, y1, _, _⟩ := HY1.out
  go_wp2_with fail
  refine (HP.out _).mono ?_
  rintro e w2 ⟨rfl, hb⟩
  have HA2 : Hid (Below w.heap.size w w2) := HA1.out.trans (hb.mono HA1.out.size)
  have HX2 : Hid (Lay w2 w.heap.size (.int .i64 (n : Int)) (.string S)) := HX1.out.below hb
  have HY2 : Hid (Lay w2 (w.heap.size + 1) (.int .i64 (n : Int)) (.string T)) := HY1.out.below hb
  have HR2 : Hid (Lay w2 (w.heap.size + 1 + 1) (.int .i64 0) (.string ByteArray.empty)) := HR1.out.below hb
  clear hb
  clear x0 x1 y0 y1
  have hw2 := HR2.out.lt
  have HOT : Hid (OB w (n : Int) S T (.slice (some ⟨w2.heap.size, 0, none⟩) 0 0) (TK 0) (w2.alloc (.cells #[] 5))) :=
    ⟨HX2.out.alloc _, HY2.out.alloc _, HR2.out.alloc _, by rw [HT0.out]; exact Owu.lit w2 _ (by omega), by simp; omega, HA2.out.alloc HA2.out.size _⟩
  obtain ⟨x0, x1, _, _⟩ := HX2.out
  obtain ⟨y0, y1, _, _⟩ := HY2.out
  go_wp2
  clear x0 x1 y0 y1
  go_loopw [8, 9] (fun v i wr => ∃ k : Nat, k ≤ P ∧ i = .int .i64 k ∧ OB w (n : Int) S T v (TK k) wr) (fun _ i _ => P - (intOf i).toNat)
  case atStart => exact ⟨0, Nat.zero_le _, rfl, HOT.out⟩
  case round =>
    obtain ⟨k, hk, rfl, hot⟩ := hrel
    have HS : Hid (OB w (n : Int) S T u8 (TK k) wr) := hot
    clear hot
    obtain ⟨x0, x1, _, _⟩ := HS.out.lay
    obtain ⟨y0, y1, _, _⟩ := HS.out.lay2
    by_cases hlt : k < P
    · have hks : k < S.size := by rw [HG.out.size]; exact hlt
      have hkt : k < T.size := by rw [HG2.out.size]; exact hlt
      have hkz : (k : Int) < (S.size : Int) := by omega
      have hkz2 : (k : Int) < (T.size : Int) := by omega
      have h9 := HG.out.at_ k hks
      have h8 := HG2.out.at_ k hkt
      have HHk := HHF.out k
      have HTK := HTS.out k hlt
      have HLN := HTL.out k hk
      have bx00 : bits .xor .u8 48 0 = 48 := by decide
      have bx01 : bits .xor .u8 48 1 = 49 := by decide
      have bx10 : bits .xor .u8 49 0 = 49 := by decide
      have bx11 : bits .xor .u8 49 1 = 48 := by decide
      cases hF : F k <;> cases hG : G k
      all_goals
        rw [hF] at h9 HHk
        rw [hG] at h8 HHk
        rw [HHk] at HTK
        clear hF hG HHk
        have HT : Hid (TK (k + 1) = TK k ++ [sgn _]) := HTK
        have HL : Hid ((TK k).length = k) := HLN
        clear HTK HLN
        simp only [Bool.toNat_false, Bool.toNat_true, Int.natCast_zero, Int.natCast_one] at h9 h8
        go_wp2_with fail
        go_quiet (fail)
        have HSq : Hid (OB w (n : Int) S T u8 (TK k) (wr.drewN nq)) := HS.out.drewN nq
        have hsz : w.heap.size + 1 + 1 + 1 ≤ (wr.drewN nq).heap.size := HSq.out.siz
        generalize wr.drewN nq = wq at *
        go_wp2_with (at_builtin; go_must (refine app_byte _ rfl _ _ rfl (w.heap.size + 1 + 1 + 1) u8 (TK k) (sgn _) _ (by first | exact show (49 : Int) = ((sgn true).toNat : Int) from rfl | exact show (48 : Int) = ((sgn false).toNat : Int) from rfl) rfl rfl HSq.out.own hsz (by rw [HL.out]; omega) ?_; intro g5 cp5 w5 ho5 hk5 hg5; have HO5 : Hid (OB w (n : Int) S T (.slice (some ⟨g5, 0, none⟩) ((TK k).length + 1) cp5) (TK k ++ [sgn _]) w5) := HSq.out.next hk5 ho5; clear ho5 hk5 hg5))
        go_roundw
        case rel => exact ⟨k + 1, by omega, by go_num, by rw [HT.out]; exact HO5.out⟩
        case measure => simp [intOf]; omega
    · have hkP : k = P := by omega
      have HSP : Hid (OB w (n : Int) S T u8 (TK P) wr) := by have h := HS.out; rw [hkP] at h; exact h
      have hks : ¬ (k : Int) < (S.size : Int) := by have := HG.out.size; omega
      have hcv : (convert 22 9 u8).run Tryd.prog wr = .ok (.string RS) wr := by
        have := HSP.out.own.text (by rw [HTL.out P (Nat.le_refl _)]; exact hp)
        rw [HTA.out] at this
        exact this
      obtain ⟨r0, r1, r2, r3⟩ := HSP.out.res
      have HFN : Hid _ := finT HSP.out.res HSP.out.bel (by omega) (.int .i64 (n : Int)) (.string RS)
      clear hkP
      obtain ⟨av, cv, hv, _⟩ := HSP.out.own.form
      subst hv
      go_wp2
      obtain ⟨W, hW, hz, hbz⟩ := HFN.out
      have hW2 : (wr.setCell ⟨w.heap.size + 1 + 1, 0, none⟩ (.int .i64 (n : Int))).setCell ⟨w.heap.size + 1 + 1, 1, none⟩ (.string RS) = W := hW.symm
      rw [hW2]
      obtain ⟨z0, z1, _, _⟩ := hz
      exact bodyPost_ret (v := .tuple #[tv (n : Int) RS, .bool true]) (by simp [results, Tryd.results39, go_sem, z0, z1]) rfl ⟨rfl, hbz⟩

set_option maxHeartbeats 1000000 in
theorem sAnd0 {N M : Int} {S T : ByteArray} (w : World) (hS : S.size ≤ 1048576) (hT : T.size ≤ 1048576) (h : ¬ (tokB N (tl S) = true ∧ tokB M (tl T) = true ∧ N = M)) :
    Calls Tryd.prog 17 #[tv N S, tv M T] w fun e w' => e = .returned (.tuple #[tv 0 ByteArray.empty, .bool false]) ∧ Below w.heap.size w w' := by
  have HC : Hid (∀ W, Calls Tryd.prog 39 #[tv N S, tv M T, .bool true] W fun e w' => e = .returned (.tuple #[tv 0 ByteArray.empty, .bool false]) ∧ Below W.heap.size W w') := fun W => sBoth0 W hS hT h
  clear h
  have HA : Hid (Below w.heap.size w (((w.alloc (.cells #[.int .i64 N, .string S] 25)).alloc (.cells #[.int .i64 M, .string T] 25)).alloc (.cells #[.int .i64 0, .string ByteArray.empty] 25))) := (((Below.refl _ _).alloc (Nat.le_refl _) _).alloc (by simp) _).alloc (by simp; omega) _
  have HX : Hid (Lay (((w.alloc (.cells #[.int .i64 N, .string S] 25)).alloc (.cells #[.int .i64 M, .string T] 25)).alloc (.cells #[.int .i64 0, .string ByteArray.empty] 25)) w.heap.size (.int .i64 N) (.string S)) := ((Lay.made _ _ _ _).alloc _).alloc _
  have HY : Hid (Lay (((w.alloc (.cells #[.int .i64 N, .string S] 25)).alloc (.cells #[.int .i64 M, .string T] 25)).alloc (.cells #[.int .i64 0, .string ByteArray.empty] 25)) (w.heap.size + 1) (.int .i64 M) (.string T)) := by
    have := (Lay.made (w.alloc (.cells #[.int .i64 N, .string S] 25)) (.int .i64 M) (.string T) 25).alloc (.cells #[.int .i64 0, .string ByteArray.empty] 25)
    show Lay _ _ _ _
    simpa using this
  have HR : Hid (Lay (((w.alloc (.cells #[.int .i64 N, .string S] 25)).alloc (.cells #[.int .i64 M, .string T] 25)).alloc (.cells #[.int .i64 0, .string ByteArray.empty] 25)) (w.heap.size + 1 + 1) (.int .i64 0) (.string ByteArray.empty)) := by
    have := Lay.made ((w.alloc (.cells #[.int .i64 N, .string S] 25)).alloc (.cells #[.int .i64 M, .string T] 25)) (.int .i64 0) (.string ByteArray.empty) 25
    show Lay _ _ _ _
    simpa using this
  go_enter Tryd.func17, Tryd.ntmps17
  go_wp2_with fail
  refine (HC.out _).mono ?_
  rintro e w1 ⟨rfl, hb⟩
  have HA1 : Hid (Below w.heap.size w w1) := HA.out.trans (hb.mono HA.out.size)
  have HX1 : Hid (Lay w1 w.heap.size (.int .i64 N) (.string S)) := HX.out.below hb
  have HY1 : Hid (Lay w1 (w.heap.size + 1) (.int .i64 M) (.string T)) := HY.out.below hb
  have HR1 : Hid (Lay w1 (w.heap.size + 1 + 1) (.int .i64 0) (.string ByteArray.empty)) := HR.out.below hb
  clear hb
  obtain ⟨r0, r1, r2, r3⟩ := HR1.out
  have HFN : Hid _ := finT HR1.out HA1.out (by omega) (.int .i64 0) (.string ByteArray.empty)
  go_wp2
  obtain ⟨W, hW, hz, hbz⟩ := HFN.out
  have hW2 : (w1.setCell ⟨w.heap.size + 1 + 1, 0, none⟩ (.int .i64 0)).setCell ⟨w.heap.size + 1 + 1, 1, none⟩ (.string ByteArray.empty) = W := hW.symm
  rw [hW2]
  obtain ⟨z0, z1, _, _⟩ := hz
  exact bodyPost_ret (v := .tuple #[tv 0 ByteArray.empty, .bool false]) (by simp [results, Tryd.results17, go_sem, z0, z1]) rfl ⟨rfl, hbz⟩

set_option maxHeartbeats 1000000 in
theorem sAnd (n : Nat) (F G : Nat → Bool) (w : World) (hn : n ≤ 12) :
    Calls Tryd.prog 17 #[tv (n : Int) (bs (tab n F)), tv (n : Int) (bs (tab n G))] w fun e w' => e = .returned (.tuple #[tv (n : Int) (bs (tab n fun p => F p && G p)), .bool true]) ∧ Below w.heap.size w w' := by
  have HC : Hid (∀ W, Calls Tryd.prog 39 #[tv (n : Int) (bs (tab n F)), tv (n : Int) (bs (tab n G)), .bool true] W fun e w' => e = .returned (.tuple #[tv (n : Int) (bs (tab n fun p => F p && G p)), .bool true]) ∧ Below W.heap.size W w') := fun W => sBothAnd n F G W hn
  generalize bs (tab n fun p => F p && G p) = RS at *
  generalize bs (tab n F) = S at *
  generalize bs (tab n G) = T at *
  have HA : Hid (Below w.heap.size w (((w.alloc (.cells #[.int .i64 (n : Int), .string S] 25)).alloc (.cells #[.int .i64 (n : Int), .string T] 25)).alloc (.cells #[.int .i64 0, .string ByteArray.empty] 25))) := (((Below.refl _ _).alloc (Nat.le_refl _) _).alloc (by simp) _).alloc (by simp; omega) _
  have HX : Hid (Lay (((w.alloc (.cells #[.int .i64 (n : Int), .string S] 25)).alloc (.cells #[.int .i64 (n : Int), .string T] 25)).alloc (.cells #[.int .i64 0, .string ByteArray.empty] 25)) w.heap.size (.int .i64 (n : Int)) (.string S)) := ((Lay.made _ _ _ _).alloc _).alloc _
  have HY : Hid (Lay (((w.alloc (.cells #[.int .i64 (n : Int), .string S] 25)).alloc (.cells #[.int .i64 (n : Int), .string T] 25)).alloc (.cells #[.int .i64 0, .string ByteArray.empty] 25)) (w.heap.size + 1) (.int .i64 (n : Int)) (.string T)) := by
    have := (Lay.made (w.alloc (.cells #[.int .i64 (n : Int), .string S] 25)) (.int .i64 (n : Int)) (.string T) 25).alloc (.cells #[.int .i64 0, .string ByteArray.empty] 25)
    show Lay _ _ _ _
    simpa using this
  have HR : Hid (Lay (((w.alloc (.cells #[.int .i64 (n : Int), .string S] 25)).alloc (.cells #[.int .i64 (n : Int), .string T] 25)).alloc (.cells #[.int .i64 0, .string ByteArray.empty] 25)) (w.heap.size + 1 + 1) (.int .i64 0) (.string ByteArray.empty)) := by
    have := Lay.made ((w.alloc (.cells #[.int .i64 (n : Int), .string S] 25)).alloc (.cells #[.int .i64 (n : Int), .string T] 25)) (.int .i64 0) (.string ByteArray.empty) 25
    show Lay _ _ _ _
    simpa using this
  go_enter Tryd.func17, Tryd.ntmps17
  go_wp2_with fail
  refine (HC.out _).mono ?_
  rintro e w1 ⟨rfl, hb⟩
  have HA1 : Hid (Below w.heap.size w w1) := HA.out.trans (hb.mono HA.out.size)
  have HX1 : Hid (Lay w1 w.heap.size (.int .i64 (n : Int)) (.string S)) := HX.out.below hb
  have HY1 : Hid (Lay w1 (w.heap.size + 1) (.int .i64 (n : Int)) (.string T)) := HY.out.below hb
  have HR1 : Hid (Lay w1 (w.heap.size + 1 + 1) (.int .i64 0) (.string ByteArray.empty)) := HR.out.below hb
  clear hb
  obtain ⟨r0, r1, r2, r3⟩ := HR1.out
  have HFN : Hid _ := finT HR1.out HA1.out (by omega) (.int .i64 (n : Int)) (.string RS)
  go_wp2
  obtain ⟨W, hW, hz, hbz⟩ := HFN.out
  have hW2 : (w1.setCell ⟨w.heap.size + 1 + 1, 0, none⟩ (.int .i64 (n : Int))).setCell ⟨w.heap.size + 1 + 1, 1, none⟩ (.string RS) = W := hW.symm
  rw [hW2]
  obtain ⟨z0, z1, _, _⟩ := hz
  exact bodyPost_ret (v := .tuple #[tv (n : Int) RS, .bool true]) (by simp [results, Tryd.results17, go_sem, z0, z1]) rfl ⟨rfl, hbz⟩

end Go.Proofs.YtkcbonocbdfbcaaDoor.Td3
