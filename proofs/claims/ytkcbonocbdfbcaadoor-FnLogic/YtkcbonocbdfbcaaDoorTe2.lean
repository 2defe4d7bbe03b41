/- The program's functions over tables: two put together. -/
import Derived.Test.YtkcbonocbdfbcaaDoorTe1
import Derived.Test.YtkcbonocbdfbcaaDoorTc9
namespace Go.Proofs.YtkcbonocbdfbcaaDoor.Te2
open Go.RowKit
open Ta0 Ta1 Ta2 Tc2 Tc4 Tc5 Tc6 Tc7 Tc8 Tc9 Td1 Td2 Te1
open Nd0 (Kept Ints set_other set_same lt_of_cell)
open Ss0 (bs bs_size ret_str bs_ext)
open Ss1 (tl tl_length tl_get tl_take bs_tl tl_bs tl_inj eqb)
set_option linter.unusedVariables false

/-- The bits of a string's signs. -/
def bU (n : Nat) (U : ByteArray) (p : Nat) : Bool := decide (p < 2 ^ n) && ((tl U).getD p 48 == 49)
/-- What stands while two tables are put together. -/
structure TG (w : World) (N M : Int) (S T : ByteArray) (W : World) : Prop where
  x : Lay W w.heap.size (.int .i64 N) (.string S)
  y : Lay W (w.heap.size + 1) (.int .i64 M) (.string T)
  r : Lay W (w.heap.size + 1 + 1) (.int .i64 0) (.string ByteArray.empty)
  bel : Below w.heap.size w W
theorem bU_tab (n : Nat) (F : Nat → Bool) : bU n (bs (tab n F)) = upto (2 ^ n) F := by
  funext p
  unfold bU upto
  by_cases h : p < 2 ^ n
  · have h2 : p < (tab n F).length := by rw [tab_length]; exact h
    have e : (tl (bs (tab n F))).getD p 48 = sgn (F p) := by rw [tl_bs, ← tab_get n F p h2]; simp [List.getD, h2]
    rw [e, decide_eq_true h]
    cases F p <;> rfl
  · rw [decide_eq_false h, Bool.false_and, Bool.false_and]
theorem TG.below {w : World} {N M : Int} {S T : ByteArray} {W W' : World} (h : TG w N M S T W) (k : Below W.heap.size W W') : TG w N M S T W' :=
  ⟨h.x.below k, h.y.below k, h.r.below k, h.bel.trans (k.mono h.bel.size)⟩
theorem TG.drew {w : World} {N M : Int} {S T : ByteArray} {W : World} (h : TG w N M S T W) : TG w N M S T W.drew := h.below (below_drewN (Below.refl _ _) 1)

set_option maxHeartbeats 2000000 in
theorem tog0 {N M : Int} {S T : ByteArray} {fv : Value} (w : World) (hS : S.size ≤ 1048576) (hT : T.size ≤ 1048576) (h : ¬ (tokB N (tl S) = true ∧ tokB M (tl T) = true ∧ N = M)) :
    Calls Tryd.prog 36 #[tv N S, tv M T, fv] w fun e w' => e = .returned (.tuple #[tv 0 ByteArray.empty, .bool false]) ∧ Below w.heap.size w w' := by
  have HA : Hid (Below w.heap.size w (((w.alloc (.cells #[.int .i64 N, .string S] 25)).alloc (.cells #[.int .i64 M, .string T] 25)).alloc (.cells #[.int .i64 0, .string ByteArray.empty] 25))) := (((Below.refl _ _).alloc (Nat.le_refl _) _).alloc (by simp) _).alloc (by simp; omega) _
  have HX : Hid (Lay (((w.alloc (.cells #[.int .i64 N, .string S] 25)).alloc (.cells #[.int .i64 M, .string T] 25)).alloc (.cells #[.int .i64 0, .string ByteArray.empty] 25)) w.heap.size (.int .i64 N) (.string S)) := ((Lay.made _ _ _ _).alloc _).alloc _
  have HY : Hid (Lay (((w.alloc (.cells #[.int .i64 N, .string S] 25)).alloc (.cells #[.int .i64 M, .string T] 25)).alloc (.cells #[.int .i64 0, .string ByteArray.empty] 25)) (w.heap.size + 1) (.int .i64 M) (.string T)) := by
    have := (Lay.made (w.alloc (.cells #[.int .i64 N, .string S] 25)) (.int .i64 M) (.string T) 25).alloc (.cells #[.int .i64 0, .string ByteArray.empty] 25)
    show Lay _ _ _ _
    simpa using this
  have HR : Hid (Lay (((w.alloc (.cells #[.int .i64 N, .string S] 25)).alloc (.cells #[.int .i64 M, .string T] 25)).alloc (.cells #[.int .i64 0, .string ByteArray.empty] 25)) (w.heap.size + 1 + 1) (.int .i64 0) (.string ByteArray.empty)) := by
    have := Lay.made ((w.alloc (.cells #[.int .i64 N, .string S] 25)).alloc (.cells #[.int .i64 M, .string T] 25)) (.int .i64 0) (.string ByteArray.empty) 25
    show Lay _ _ _ _
    simpa using this
  cases h1 : tokB N (tl S)
  · have HO : Hid (∀ W, Calls Tryd.prog 26 #[tv N S] W fun e w' => e = .returned (.bool false) ∧ Below W.heap.size W w') := fun W => iOk0 W hS h1
    clear h h1
    go_enter Tryd.func36, Tryd.ntmps36
    go_wp2_with fail
    refine (HO.out _).mono ?_
    rintro e w1 ⟨rfl, hb⟩
    have HA1 : Hid (Below w.heap.size w w1) := HA.out.trans (hb.mono HA.out.size)
    have HX1 : Hid (Lay w1 w.heap.size (.int .i64 N) (.string S)) := HX.out.below hb
    have HY1 : Hid (Lay w1 (w.heap.size + 1) (.int .i64 M) (.string T)) := HY.out.below hb
    have HR1 : Hid (Lay w1 (w.heap.size + 1 + 1) (.int .i64 0) (.string ByteArray.empty)) := HR.out.below hb
    clear hb
    obtain ⟨r0, r1, r2, r3⟩ := HR1.out
    have HFN : Hid _ := finT HR1.out HA1.out (by omega) (.int .i64 0) (.string ⟨#[]⟩)
    go_wp2
    obtain ⟨W, hW, hz, hbz⟩ := HFN.out
    have hW2 : (w1.setCell ⟨w.heap.size + 1 + 1, 0, none⟩ (.int .i64 0)).setCell ⟨w.heap.size + 1 + 1, 1, none⟩ (.string ⟨#[]⟩) = W := hW.symm
    rw [hW2]
    obtain ⟨z0, z1, _, _⟩ := hz
    exact bodyPost_ret (v := .tuple #[tv 0 ⟨#[]⟩, .bool false]) (by simp [results, Tryd.results36, go_sem, z0, z1]) rfl ⟨rfl, hbz⟩
  have HO : Hid (∀ W, Calls Tryd.prog 26 #[tv N S] W fun e w' => e = .returned (.bool true) ∧ Below W.heap.size W w') := fun W => by
    have := iTableOk N S W hS
    rwa [h1] at this
  cases h2 : tokB M (tl T)
  · have HP : Hid (∀ W, Calls Tryd.prog 26 #[tv M T] W fun e w' => e = .returned (.bool false) ∧ Below W.heap.size W w') := fun W => iOk0 W hT h2
    clear h h1 h2
    go_enter Tryd.func36, Tryd.ntmps36
    go_wp2_with fail
    refine (HO.out _).mono ?_
    rintro e w1 ⟨rfl, hb⟩
    have HA1 : Hid (Below w.heap.size w w1) := HA.out.trans (hb.mono HA.out.size)
    have HX1 : Hid (Lay w1 w.heap.size (.int .i64 N) (.string S)) := HX.out.below hb
    have HY1 : Hid (Lay w1 (w.heap.size + 1) (.int .i64 M) (.string T)) := HY.out.below hb
    have HR1 : Hid (Lay w1 (w.heap.size + 1 + 1) (.int .i64 0) (.string ByteArray.empty)) := HR.out.below hb
    clear hb
    obtain ⟨x0, x1, _, _⟩ := HX1.out
    obtain ⟨y0, y1, _, _⟩ := HY1.out
    go_wp2_with fail
    refine (HP.out _).mono ?_
    rintro e w2 ⟨rfl, hb⟩
    have HA2 : Hid (Below w.heap.size w w2) := HA1.out.trans (hb.mono HA1.out.size)
    have HX2 : Hid (Lay w2 w.heap.size (.int .i64 N) (.string S)) := HX1.out.below hb
    have HY2 : Hid (Lay w2 (w.heap.size + 1) (.int .i64 M) (.string T)) := HY1.out.below hb
    have HR2 : Hid (Lay w2 (w.heap.size + 1 + 1) (.int .i64 0) (.string ByteArray.empty)) := HR1.out.below hb
    clear hb
    clear x0 x1 y0 y1
    obtain ⟨r0, r1, r2, r3⟩ := HR2.out
    have HFN : Hid _ := finT HR2.out HA2.out (by omega) (.int .i64 0) (.string ⟨#[]⟩)
    go_wp2
    obtain ⟨W, hW, hz, hbz⟩ := HFN.out
    have hW2 : (w2.setCell ⟨w.heap.size + 1 + 1, 0, none⟩ (.int .i64 0)).setCell ⟨w.heap.size + 1 + 1, 1, none⟩ (.string ⟨#[]⟩) = W := hW.symm
    rw [hW2]
    obtain ⟨z0, z1, _, _⟩ := hz
    exact bodyPost_ret (v := .tuple #[tv 0 ⟨#[]⟩, .bool false]) (by simp [results, Tryd.results36, go_sem, z0, z1]) rfl ⟨rfl, hbz⟩
  · have HP : Hid (∀ W, Calls Tryd.prog 26 #[tv M T] W fun e w' => e = .returned (.bool true) ∧ Below W.heap.size W w') := fun W => by
      have := iTableOk M T W hT
      rwa [h2] at this
    have hNM : (N != M) = true := bne_iff_ne.2 fun e => h ⟨h1, h2, e⟩
    clear h h1 h2
    go_enter Tryd.func36, Tryd.ntmps36
    go_wp2_with fail
    refine (HO.out _).mono ?_
    rintro e w1 ⟨rfl, hb⟩
    have HA1 : Hid (Below w.heap.size w w1) := HA.out.trans (hb.mono HA.out.size)
    have HX1 : Hid (Lay w1 w.heap.size (.int .i64 N) (.string S)) := HX.out.below hb
    have HY1 : Hid (Lay w1 (w.heap.size + 1) (.int .i64 M) (.string T)) := HY.out.below hb
    have HR1 : Hid (Lay w1 (w.heap.size + 1 + 1) (.int .i64 0) (.string ByteArray.empty)) := HR.out.below hb
    clear hb
    obtain ⟨x0, x1, _, _⟩ := HX1.out
    obtain ⟨y0, y1, _, _⟩ := HY1.out
    go_wp2_with fail
    refine (HP.out _).mono ?_
    rintro e w2 ⟨rfl, hb⟩
    have HA2 : Hid (Below w.heap.size w w2) := HA1.out.trans (hb.mono HA1.out.size)
    have HX2 : Hid (Lay w2 w.heap.size (.int .i64 N) (.string S)) := HX1.out.below hb
    have HY2 : Hid (Lay w2 (w.heap.size + 1) (.int .i64 M) (.string T)) := HY1.out.below hb
    have HR2 : Hid (Lay w2 (w.heap.size + 1 + 1) (.int .i64 0) (.string ByteArray.empty)) := HR1.out.below hb
    clear hb
    clear x0 x1 y0 y1
    obtain ⟨x0, x1, _, _⟩ := HX2.out
    obtain ⟨y0, y1, _, _⟩ := HY2.out
    obtain ⟨r0, r1, r2, r3⟩ := HR2.out
    have HFN : Hid _ := finT HR2.out HA2.out (by omega) (.int .i64 0) (.string ⟨#[]⟩)
    go_wp2
    obtain ⟨W, hW, hz, hbz⟩ := HFN.out
    have hW2 : (w2.setCell ⟨w.heap.size + 1 + 1, 0, none⟩ (.int .i64 0)).setCell ⟨w.heap.size + 1 + 1, 1, none⟩ (.string ⟨#[]⟩) = W := hW.symm
    rw [hW2]
    obtain ⟨z0, z1, _, _⟩ := hz
    exact bodyPost_ret (v := .tuple #[tv 0 ⟨#[]⟩, .bool false]) (by simp [results, Tryd.results36, go_sem, z0, z1]) rfl ⟨rfl, hbz⟩

set_option maxRecDepth 100000 in
set_option maxHeartbeats 4000000 in
theorem togAnd (n : Nat) (F G : Nat → Bool) (w : World) (hn : n ≤ 12) :
    Calls Tryd.prog 36 #[tv (n : Int) (bs (tab n F)), tv (n : Int) (bs (tab n G)), .func (.func 37) #[] #[]] w fun e w' => e = .returned (.tuple #[tv (n : Int) (bs (tab n fun p => F p && G p)), .bool true]) ∧ Below w.heap.size w w' := by
  have HO : Hid (∀ W, Calls Tryd.prog 26 #[tv (n : Int) (bs (tab n F))] W fun e w' => e = .returned (.bool true) ∧ Below W.heap.size W w') := fun W => iOk1 n F W hn
  have HP : Hid (∀ W, Calls Tryd.prog 26 #[tv (n : Int) (bs (tab n G))] W fun e w' => e = .returned (.bool true) ∧ Below W.heap.size W w') := fun W => iOk1 n G W hn
  have HPK : Hid (∀ W, Calls Tryd.prog 27 #[tv (n : Int) (bs (tab n F))] W fun e w' => ∃ g, e = .returned (pv n (nw n) g) ∧ W.heap.size ≤ g ∧ Wds w' g (nw n) (upto (2 ^ n) F) ∧ Below W.heap.size W w') := fun W => pack n F W hn
  have HPL : Hid (∀ W, Calls Tryd.prog 27 #[tv (n : Int) (bs (tab n G))] W fun e w' => ∃ g, e = .returned (pv n (nw n) g) ∧ W.heap.size ≤ g ∧ Wds w' g (nw n) (upto (2 ^ n) G) ∧ Below W.heap.size W w') := fun W => pack n G W hn
  have HWT : Hid (∀ W g h, Wds W g (nw n) (upto (2 ^ n) F) → Wds W h (nw n) (upto (2 ^ n) G) → Calls Tryd.prog 52 #[pv n (nw n) g, pv n (nw n) h, .func (.func 37) #[] #[]] W fun e w' => ∃ g2, e = .returned (pv n (nw n) g2) ∧ W.heap.size ≤ g2 ∧ Wds w' g2 (nw n) (fun p => upto (2 ^ n) F p && upto (2 ^ n) G p) ∧ Below W.heap.size W w') := fun W g h h1 h2 => withAnd n g h _ _ W hn h1 h2
  have HTB : Hid (∀ W g, Wds W g (nw n) (fun p => upto (2 ^ n) F p && upto (2 ^ n) G p) → Calls Tryd.prog 34 #[pv n (nw n) g] W fun e w' => e = .returned (tv (n : Int) (bs (tab n fun p => F p && G p))) ∧ Below W.heap.size W w') := fun W g h => by
    have := table n g _ W hn h
    rwa [tab_ext (G := fun p => F p && G p) (fun i hi => by simp [upto, hi])] at this
  generalize bs (tab n fun p => F p && G p) = RS at *
  generalize (fun p => upto (2 ^ n) F p && upto (2 ^ n) G p) = H at *
  have hbF := bU_tab n F
  have hbG := bU_tab n G
  rw [← hbF] at HPK HWT
  rw [← hbG] at HPL HWT
  clear hbF hbG
  generalize hS : bs (tab n F) = S at *
  generalize hT : bs (tab n G) = T at *
  generalize bU n = BU at *
  generalize nw n = m at *
  clear hS hT
  have HPA : Hid (∀ W U, (U = S ∨ U = T) → Calls Tryd.prog 27 #[tv (n : Int) U] W fun e w' => ∃ g, e = .returned (pv n m g) ∧ W.heap.size ≤ g ∧ Wds w' g m (BU U) ∧ Below W.heap.size W w') := fun W U hU => by
    rcases hU with rfl | rfl
    · exact HPK.out W
    · exact HPL.out W
  have hNM : ((n : Int) != (n : Int)) = false := by simp
  have HA : Hid (Below w.heap.size w (((w.alloc (.cells #[.int .i64 (n : Int), .string S] 25)).alloc (.cells #[.int .i64 (n : Int), .string T] 25)).alloc (.cells #[.int .i64 0, .string ByteArray.empty] 25))) := (((Below.refl _ _).alloc (Nat.le_refl _) _).alloc (by simp) _).alloc (by simp; omega) _
  have HX : Hid (Lay (((w.alloc (.cells #[.int .i64 (n : Int), .string S] 25)).alloc (.cells #[.int .i64 (n : Int), .string T] 25)).alloc (.cells #[.int .i64 0, .string ByteArray.empty] 25)) w.heap.size (.int .i64 (n : Int)) (.string S)) := ((Lay.made _ _ _ _).alloc _).alloc _
  have HY : Hid (Lay (((w.alloc (.cells #[.int .i64 (n : Int), .string S] 25)).alloc (.cells #[.int .i64 (n : Int), .string T] 25)).alloc (.cells #[.int .i64 0, .string ByteArray.empty] 25)) (w.heap.size + 1) (.int .i64 (n : Int)) (.string T)) := by
    have := (Lay.made (w.alloc (.cells #[.int .i64 (n : Int), .string S] 25)) (.int .i64 (n : Int)) (.string T) 25).alloc (.cells #[.int .i64 0, .string ByteArray.empty] 25)
    show Lay _ _ _ _
    simpa using this
  have HR : Hid (Lay (((w.alloc (.cells #[.int .i64 (n : Int), .string S] 25)).alloc (.cells #[.int .i64 (n : Int), .string T] 25)).alloc (.cells #[.int .i64 0, .string ByteArray.empty] 25)) (w.heap.size + 1 + 1) (.int .i64 0) (.string ByteArray.empty)) := by
    have := Lay.made ((w.alloc (.cells #[.int .i64 (n : Int), .string S] 25)).alloc (.cells #[.int .i64 (n : Int), .string T] 25)) (.int .i64 0) (.string ByteArray.empty) 25
    show Lay _ _ _ _
    simpa using this
  go_enter Tryd.func36, Tryd.ntmps36
  go_wp2_with fail
  refine (HO.out _).mono ?_
  rintro e w1 ⟨rfl, hb⟩
  have HA1 : Hid (Below w.heap.size w w1) := HA.out.trans (hb.mono HA.out.size)
  have HX1 : Hid (Lay w1 w.heap.size (.int .i64 (n : Int)) (.string S)) := HX.out.below hb
  have HY1 : Hid (Lay w1 (w.heap.size + 1) (.int .i64 (n : Int)) (.string T)) := HY.out.below hb
  have HR1 : Hid (Lay w1 (w.heap.size + 1 + 1) (.int .i64 0) (.string ByteArray.empty)) := HR.out.below hb
  clear hb
  obtain ⟨x0, x1, _, _⟩ := HX1.out
  obtain ⟨y0, y1, _, _⟩ := HY1.out
  go_wp2_with fail
  refine (HP.out _).mono ?_
  rintro e w2 ⟨rfl, hb⟩
  have HA2 : Hid (Below w.heap.size w w2) := HA1.out.trans (hb.mono HA1.out.size)
  have HX2 : Hid (Lay w2 w.heap.size (.int .i64 (n : Int)) (.string S)) := HX1.out.below hb
  have HY2 : Hid (Lay w2 (w.heap.size + 1) (.int .i64 (n : Int)) (.string T)) := HY1.out.below hb
  have HR2 : Hid (Lay w2 (w.heap.size + 1 + 1) (.int .i64 0) (.string ByteArray.empty)) := HR1.out.below hb
  clear hb
  clear x0 x1 y0 y1
  have HS2 : Hid (TG w (n : Int) (n : Int) S T w2) := ⟨HX2.out, HY2.out, HR2.out, HA2.out⟩
  obtain ⟨x0, x1, _, _⟩ := HX2.out
  obtain ⟨y0, y1, _, _⟩ := HY2.out
  obtain ⟨r0, r1, r2, r3⟩ := HR2.out
  go_wp2_with fail
  clear r0 r1 r2 r3
  go_region_held3 (fun w' => w'.cell? ⟨w.heap.size, 0, none⟩ = some (.int .i64 (n : Int)) ∧ w'.cell? ⟨w.heap.size, 1, none⟩ = some (.string S) ∧ w'.cell? ⟨w.heap.size + 1, 0, none⟩ = some (.int .i64 (n : Int)) ∧ w'.cell? ⟨w.heap.size + 1, 1, none⟩ = some (.string T)) ((first | exact ⟨x0, x1, y0, y1⟩ | exact ⟨hS3.x.c0, hS3.x.c1, hS3.y.c0, hS3.y.c1⟩ | exact ⟨sother (sother hS3.x.c0 (by omega)) (by omega), sother (sother hS3.x.c1 (by omega)) (by omega), sother (sother hS3.y.c0 (by omega)) (by omega), sother (sother hS3.y.c1 (by omega)) (by omega)⟩)) ((first | (go_at_call 27; refine (HPA.out _ _ (by first | exact Or.inl rfl | exact Or.inr rfl)).mono ?_; rintro e wa ⟨gg, rfl, _, hwN, hbN⟩; (first | have hS3 := hS3.below hbN | have hS3 := HS2.out.drew.below hbN); (first | have hwO := hwO.below hbN | have hwO := hwN); clear hbN) | (go_at_call 52; (first | refine (HWT.out _ _ _ hwO hwN).mono ?_ | refine (HWT.out _ _ _ hwN hwO).mono ?_); rintro e wc ⟨g2, rfl, hg2, hw2, hbW⟩; have hS3 := hS3.below hbW; clear hbW hg2) | (go_at_call 34; refine (HTB.out _ g2 hw2).mono ?_; rintro e wd ⟨rfl, hbT⟩; have hS3 := hS3.below hbT; obtain ⟨r0, r1, r2, r3⟩ := hS3.r; clear hbT)))
  all_goals
    have HFN := finT hS3.r hS3.bel (by omega) (.int .i64 (n : Int)) (.string RS)
    go_wp2
    obtain ⟨W, hW, hz, hbz⟩ := HFN
    have hW2 : (wd.setCell ⟨w.heap.size + 1 + 1, 0, none⟩ (.int .i64 (n : Int))).setCell ⟨w.heap.size + 1 + 1, 1, none⟩ (.string RS) = W := hW.symm
    rw [hW2]
    obtain ⟨z0, z1, _, _⟩ := hz
    exact bodyPost_ret (v := .tuple #[tv (n : Int) RS, .bool true]) (by simp [results, Tryd.results36, go_sem, z0, z1]) rfl ⟨rfl, hbz⟩

set_option maxRecDepth 100000 in
set_option maxHeartbeats 4000000 in
theorem togXor (n : Nat) (F G : Nat → Bool) (w : World) (hn : n ≤ 12) :
    Calls Tryd.prog 36 #[tv (n : Int) (bs (tab n F)), tv (n : Int) (bs (tab n G)), .func (.func 38) #[] #[]] w fun e w' => e = .returned (.tuple #[tv (n : Int) (bs (tab n fun p => F p ^^ G p)), .bool true]) ∧ Below w.heap.size w w' := by
  have HO : Hid (∀ W, Calls Tryd.prog 26 #[tv (n : Int) (bs (tab n F))] W fun e w' => e = .returned (.bool true) ∧ Below W.heap.size W w') := fun W => iOk1 n F W hn
  have HP : Hid (∀ W, Calls Tryd.prog 26 #[tv (n : Int) (bs (tab n G))] W fun e w' => e = .returned (.bool true) ∧ Below W.heap.size W w') := fun W => iOk1 n G W hn
  have HPK : Hid (∀ W, Calls Tryd.prog 27 #[tv (n : Int) (bs (tab n F))] W fun e w' => ∃ g, e = .returned (pv n (nw n) g) ∧ W.heap.size ≤ g ∧ Wds w' g (nw n) (upto (2 ^ n) F) ∧ Below W.heap.size W w') := fun W => pack n F W hn
  have HPL : Hid (∀ W, Calls Tryd.prog 27 #[tv (n : Int) (bs (tab n G))] W fun e w' => ∃ g, e = .returned (pv n (nw n) g) ∧ W.heap.size ≤ g ∧ Wds w' g (nw n) (upto (2 ^ n) G) ∧ Below W.heap.size W w') := fun W => pack n G W hn
  have HWT : Hid (∀ W g h, Wds W g (nw n) (upto (2 ^ n) F) → Wds W h (nw n) (upto (2 ^ n) G) → Calls Tryd.prog 52 #[pv n (nw n) g, pv n (nw n) h, .func (.func 38) #[] #[]] W fun e w' => ∃ g2, e = .returned (pv n (nw n) g2) ∧ W.heap.size ≤ g2 ∧ Wds w' g2 (nw n) (fun p => upto (2 ^ n) F p ^^ upto (2 ^ n) G p) ∧ Below W.heap.size W w') := fun W g h h1 h2 => withXor n g h _ _ W hn h1 h2
  have HTB : Hid (∀ W g, Wds W g (nw n) (fun p => upto (2 ^ n) F p ^^ upto (2 ^ n) G p) → Calls Tryd.prog 34 #[pv n (nw n) g] W fun e w' => e = .returned (tv (n : Int) (bs (tab n fun p => F p ^^ G p))) ∧ Below W.heap.size W w') := fun W g h => by
    have := table n g _ W hn h
    rwa [tab_ext (G := fun p => F p ^^ G p) (fun i hi => by simp [upto, hi])] at this
  generalize bs (tab n fun p => F p ^^ G p) = RS at *
  generalize (fun p => upto (2 ^ n) F p ^^ upto (2 ^ n) G p) = H at *
  have hbF := bU_tab n F
  have hbG := bU_tab n G
  rw [← hbF] at HPK HWT
  rw [← hbG] at HPL HWT
  clear hbF hbG
  generalize hS : bs (tab n F) = S at *
  generalize hT : bs (tab n G) = T at *
  generalize bU n = BU at *
  generalize nw n = m at *
  clear hS hT
  have HPA : Hid (∀ W U, (U = S ∨ U = T) → Calls Tryd.prog 27 #[tv (n : Int) U] W fun e w' => ∃ g, e = .returned (pv n m g) ∧ W.heap.size ≤ g ∧ Wds w' g m (BU U) ∧ Below W.heap.size W w') := fun W U hU => by
    rcases hU with rfl | rfl
    · exact HPK.out W
    · exact HPL.out W
  have hNM : ((n : Int) != (n : Int)) = false := by simp
  have HA : Hid (Below w.heap.size w (((w.alloc (.cells #[.int .i64 (n : Int), .string S] 25)).alloc (.cells #[.int .i64 (n : Int), .string T] 25)).alloc (.cells #[.int .i64 0, .string ByteArray.empty] 25))) := (((Below.refl _ _).alloc (Nat.le_refl _) _).alloc (by simp) _).alloc (by simp; omega) _
  have HX : Hid (Lay (((w.alloc (.cells #[.int .i64 (n : Int), .string S] 25)).alloc (.cells #[.int .i64 (n : Int), .string T] 25)).alloc (.cells #[.int .i64 0, .string ByteArray.empty] 25)) w.heap.size (.int .i64 (n : Int)) (.string S)) := ((Lay.made _ _ _ _).alloc _).alloc _
  have HY : Hid (Lay (((w.alloc (.cells #[.int .i64 (n : Int), .string S] 25)).alloc (.cells #[.int .i64 (n : Int), .string T] 25)).alloc (.cells #[.int .i64 0, .string ByteArray.empty] 25)) (w.heap.size + 1) (.int .i64 (n : Int)) (.string T)) := by
    have := (Lay.made (w.alloc (.cells #[.int .i64 (n : Int), .string S] 25)) (.int .i64 (n : Int)) (.string T) 25).alloc (.cells #[.int .i64 0, .string ByteArray.empty] 25)
    show Lay _ _ _ _
    simpa using this
  have HR : Hid (Lay (((w.alloc (.cells #[.int .i64 (n : Int), .string S] 25)).alloc (.cells #[.int .i64 (n : Int), .string T] 25)).alloc (.cells #[.int .i64 0, .string ByteArray.empty] 25)) (w.heap.size + 1 + 1) (.int .i64 0) (.string ByteArray.empty)) := by
    have := Lay.made ((w.alloc (.cells #[.int .i64 (n : Int), .string S] 25)).alloc (.cells #[.int .i64 (n : Int), .string T] 25)) (.int .i64 0) (.string ByteArray.empty) 25
    show Lay _ _ _ _
    simpa using this
  go_enter Tryd.func36, Tryd.ntmps36
  go_wp2_with fail
  refine (HO.out _).mono ?_
  rintro e w1 ⟨rfl, hb⟩
  have HA1 : Hid (Below w.heap.size w w1) := HA.out.trans (hb.mono HA.out.size)
  have HX1 : Hid (Lay w1 w.heap.size (.int .i64 (n : Int)) (.string S)) := HX.out.below hb
  have HY1 : Hid (Lay w1 (w.heap.size + 1) (.int .i64 (n : Int)) (.string T)) := HY.out.below hb
  have HR1 : Hid (Lay w1 (w.heap.size + 1 + 1) (.int .i64 0) (.string ByteArray.empty)) := HR.out.below hb
  clear hb
  obtain ⟨x0, x1, _, _⟩ := HX1.out
  obtain ⟨y0, y1, _, _⟩ := HY1.out
  go_wp2_with fail
  refine (HP.out _).mono ?_
  rintro e w2 ⟨rfl, hb⟩
  have HA2 : Hid (Below w.heap.size w w2) := HA1.out.trans (hb.mono HA1.out.size)
  have HX2 : Hid (Lay w2 w.heap.size (.int .i64 (n : Int)) (.string S)) := HX1.out.below hb
  have HY2 : Hid (Lay w2 (w.heap.size + 1) (.int .i64 (n : Int)) (.string T)) := HY1.out.below hb
  have HR2 : Hid (Lay w2 (w.heap.size + 1 + 1) (.int .i64 0) (.string ByteArray.empty)) := HR1.out.below hb
  clear hb
  clear x0 x1 y0 y1
  have HS2 : Hid (TG w (n : Int) (n : Int) S T w2) := ⟨HX2.out, HY2.out, HR2.out, HA2.out⟩
  obtain ⟨x0, x1, _, _⟩ := HX2.out
  obtain ⟨y0, y1, _, _⟩ := HY2.out
  obtain ⟨r0, r1, r2, r3⟩ := HR2.out
  go_wp2_with fail
  clear r0 r1 r2 r3
  go_region_held3 (fun w' => w'.cell? ⟨w.heap.size, 0, none⟩ = some (.int .i64 (n : Int)) ∧ w'.cell? ⟨w.heap.size, 1, none⟩ = some (.string S) ∧ w'.cell? ⟨w.heap.size + 1, 0, none⟩ = some (.int .i64 (n : Int)) ∧ w'.cell? ⟨w.heap.size + 1, 1, none⟩ = some (.string T)) ((first | exact ⟨x0, x1, y0, y1⟩ | exact ⟨hS3.x.c0, hS3.x.c1, hS3.y.c0, hS3.y.c1⟩ | exact ⟨sother (sother hS3.x.c0 (by omega)) (by omega), sother (sother hS3.x.c1 (by omega)) (by omega), sother (sother hS3.y.c0 (by omega)) (by omega), sother (sother hS3.y.c1 (by omega)) (by omega)⟩)) ((first | (go_at_call 27; refine (HPA.out _ _ (by first | exact Or.inl rfl | exact Or.inr rfl)).mono ?_; rintro e wa ⟨gg, rfl, _, hwN, hbN⟩; (first | have hS3 := hS3.below hbN | have hS3 := HS2.out.drew.below hbN); (first | have hwO := hwO.below hbN | have hwO := hwN); clear hbN) | (go_at_call 52; (first | refine (HWT.out _ _ _ hwO hwN).mono ?_ | refine (HWT.out _ _ _ hwN hwO).mono ?_); rintro e wc ⟨g2, rfl, hg2, hw2, hbW⟩; have hS3 := hS3.below hbW; clear hbW hg2) | (go_at_call 34; refine (HTB.out _ g2 hw2).mono ?_; rintro e wd ⟨rfl, hbT⟩; have hS3 := hS3.below hbT; obtain ⟨r0, r1, r2, r3⟩ := hS3.r; clear hbT)))
  all_goals
    have HFN := finT hS3.r hS3.bel (by omega) (.int .i64 (n : Int)) (.string RS)
    go_wp2
    obtain ⟨W, hW, hz, hbz⟩ := HFN
    have hW2 : (wd.setCell ⟨w.heap.size + 1 + 1, 0, none⟩ (.int .i64 (n : Int))).setCell ⟨w.heap.size + 1 + 1, 1, none⟩ (.string RS) = W := hW.symm
    rw [hW2]
    obtain ⟨z0, z1, _, _⟩ := hz
    exact bodyPost_ret (v := .tuple #[tv (n : Int) RS, .bool true]) (by simp [results, Tryd.results36, go_sem, z0, z1]) rfl ⟨rfl, hbz⟩

set_option maxHeartbeats 1000000 in
theorem iAnd0 {N M : Int} {S T : ByteArray} (w : World) (hS : S.size ≤ 1048576) (hT : T.size ≤ 1048576) (h : ¬ (tokB N (tl S) = true ∧ tokB M (tl T) = true ∧ N = M)) :
    Calls Tryd.prog 15 #[tv N S, tv M T] w fun e w' => e = .returned (.tuple #[tv 0 ByteArray.empty, .bool false]) ∧ Below w.heap.size w w' := by
  have HC : Hid (∀ W, Calls Tryd.prog 36 #[tv N S, tv M T, .func (.func 37) #[] #[]] W fun e w' => e = .returned (.tuple #[tv 0 ByteArray.empty, .bool false]) ∧ Below W.heap.size W w') := fun W => tog0 W hS hT h
  clear h
  have HA : Hid (Below w.heap.size w (((w.alloc (.cells #[.int .i64 N, .string S] 25)).alloc (.cells #[.int .i64 M, .string T] 25)).alloc (.cells #[.int .i64 0, .string ByteArray.empty] 25))) := (((Below.refl _ _).alloc (Nat.le_refl _) _).alloc (by simp) _).alloc (by simp; omega) _
  have HX : Hid (Lay (((w.alloc (.cells #[.int .i64 N, .string S] 25)).alloc (.cells #[.int .i64 M, .string T] 25)).alloc (.cells #[.int .i64 0, .string ByteArray.empty] 25)) w.heap.size (.int .i64 N) (.string S)) := ((Lay.made _ _ _ _).alloc _).alloc _
  have HY : Hid (Lay (((w.alloc (.cells #[.int .i64 N, .string S] 25)).alloc (.cells #[.int .i64 M, .string T] 25)).alloc (.cells #[.int .i64 0, .string ByteArray.empty] 25)) (w.heap.size + 1) (.int .i64 M) (.string T)) := by
    have := (Lay.made (w.alloc (.cells #[.int .i64 N, .string S] 25)) (.int .i64 M) (.string T) 25).alloc (.cells #[.int .i64 0, .string ByteArray.empty] 25)
    show Lay _ _ _ _
    simpa using this
  have HR : Hid (Lay (((w.alloc (.cells #[.int .i64 N, .string S] 25)).alloc (.cells #[.int .i64 M, .string T] 25)).alloc (.cells #[.int .i64 0, .string ByteArray.empty] 25)) (w.heap.size + 1 + 1) (.int .i64 0) (.string ByteArray.empty)) := by
    have := Lay.made ((w.alloc (.cells #[.int .i64 N, .string S] 25)).alloc (.cells #[.int .i64 M, .string T] 25)) (.int .i64 0) (.string ByteArray.empty) 25
    show Lay _ _ _ _
    simpa using this
  go_enter Tryd.func15, Tryd.ntmps15
  go_wp2_with fail
  refine (HC.out _).mono ?_
  rintro e w1 ⟨rfl, hb⟩
  have HA1 : Hid (Below w.heap.size w w1) := HA.out.trans (hb.mono HA.out.size)
  have HX1 : Hid (Lay w1 w.heap.size (.int .i64 N) (.string S)) := HX.out.below hb
  have HY1 : Hid (Lay w1 (w.heap.size + 1) (.int .i64 M) (.string T)) := HY.out.below hb
  have HR1 : Hid (Lay w1 (w.heap.size + 1 + 1) (.int .i64 0) (.string ByteArray.empty)) := HR.out.below hb
  clear hb
  obtain ⟨r0, r1, r2, r3⟩ := HR1.out
  have HFN : Hid _ := finT HR1.out HA1.out (by omega) (.int .i64 0) (.string ByteArray.empty)
  go_wp2
  obtain ⟨W, hW, hz, hbz⟩ := HFN.out
  have hW2 : (w1.setCell ⟨w.heap.size + 1 + 1, 0, none⟩ (.int .i64 0)).setCell ⟨w.heap.size + 1 + 1, 1, none⟩ (.string ByteArray.empty) = W := hW.symm
  rw [hW2]
  obtain ⟨z0, z1, _, _⟩ := hz
  exact bodyPost_ret (v := .tuple #[tv 0 ByteArray.empty, .bool false]) (by simp [results, Tryd.results15, go_sem, z0, z1]) rfl ⟨rfl, hbz⟩

set_option maxHeartbeats 1000000 in
theorem iAnd (n : Nat) (F G : Nat → Bool) (w : World) (hn : n ≤ 12) :
    Calls Tryd.prog 15 #[tv (n : Int) (bs (tab n F)), tv (n : Int) (bs (tab n G))] w fun e w' => e = .returned (.tuple #[tv (n : Int) (bs (tab n fun p => F p && G p)), .bool true]) ∧ Below w.heap.size w w' := by
  have HC : Hid (∀ W, Calls Tryd.prog 36 #[tv (n : Int) (bs (tab n F)), tv (n : Int) (bs (tab n G)), .func (.func 37) #[] #[]] W fun e w' => e = .returned (.tuple #[tv (n : Int) (bs (tab n fun p => F p && G p)), .bool true]) ∧ Below W.heap.size W w') := fun W => togAnd n F G W hn
  generalize bs (tab n fun p => F p && G p) = RS at *
  generalize bs (tab n F) = S at *
  generalize bs (tab n G) = T at *
  have HA : Hid (Below w.heap.size w (((w.alloc (.cells #[.int .i64 (n : Int), .string S] 25)).alloc (.cells #[.int .i64 (n : Int), .string T] 25)).alloc (.cells #[.int .i64 0, .string ByteArray.empty] 25))) := (((Below.refl _ _).alloc (Nat.le_refl _) _).alloc (by simp) _).alloc (by simp; omega) _
  have HX : Hid (Lay (((w.alloc (.cells #[.int .i64 (n : Int), .string S] 25)).alloc (.cells #[.int .i64 (n : Int), .string T] 25)).alloc (.cells #[.int .i64 0, .string ByteArray.empty] 25)) w.heap.size (.int .i64 (n : Int)) (.string S)) := ((Lay.made _ _ _ _).alloc _).alloc _
  have HY : Hid (Lay (((w.alloc (.cells #[.int .i64 (n : Int), .string S] 25)).alloc (.cells #[.int .i64 (n : Int), .string T] 25)).alloc (.cells #[.int .i64 0, .string ByteArray.empty] 25)) (w.heap.size + 1) (.int .i64 (n : Int)) (.string T)) := by
    have := (Lay.made (w.alloc (.cells #[.int .i64 (n : Int), .string S] 25)) (.int .i64 (n : Int)) (.string T) 25).alloc (.cells #[.int .i64 0, .string ByteArray.empty] 25)
    show Lay _ _ _ _
    simpa using this
  have HR : Hid (Lay (((w.alloc (.cells #[.int .i64 (n : Int), .string S] 25)).alloc (.cells #[.int .i64 (n : Int), .string T] 25)).alloc (.cells #[.int .i64 0, .string ByteArray.empty] 25)) (w.heap.size + 1 + 1) (.int .i64 0) (.string ByteArray.empty)) := by
    have := Lay.made ((w.alloc (.cells #[.int .i64 (n : Int), .string S] 25)).alloc (.cells #[.int .i64 (n : Int), .string T] 25)) (.int .i64 0) (.string ByteArray.empty) 25
    show Lay _ _ _ _
    simpa using this
  go_enter Tryd.func15, Tryd.ntmps15
  go_wp2_with fail
  refine (HC.out _).mono ?_
  rintro e w1 ⟨rfl, hb⟩
  have HA1 : Hid (Below w.heap.size w w1) := HA.out.trans (hb.mono HA.out.size)
  have HX1 : Hid (Lay w1 w.heap.size (.int .i64 (n : Int)) (.string S)) := HX.out.below hb
  have HY1 : Hid (Lay w1 (w.heap.size + 1) (.int .i64 (n : Int)) (.string T)) := HY.out.below hb
  have HR1 : Hid (Lay w1 (w.heap.size + 1 + 1) (.int .i64 0) (.string ByteArray.empty)) := HR.out.below hb
  clear hb
  obtain ⟨r0, r1, r2, r3⟩ := HR1.out
  have HFN : Hid _ := finT HR1.out HA1.out (by omega) (.int .i64 (n : Int)) (.string RS)
  go_wp2
  obtain ⟨W, hW, hz, hbz⟩ := HFN.out
  have hW2 : (w1.setCell ⟨w.heap.size + 1 + 1, 0, none⟩ (.int .i64 (n : Int))).setCell ⟨w.heap.size + 1 + 1, 1, none⟩ (.string RS) = W := hW.symm
  rw [hW2]
  obtain ⟨z0, z1, _, _⟩ := hz
  exact bodyPost_ret (v := .tuple #[tv (n : Int) RS, .bool true]) (by simp [results, Tryd.results15, go_sem, z0, z1]) rfl ⟨rfl, hbz⟩

set_option maxHeartbeats 1000000 in
theorem iXor0 {N M : Int} {S T : ByteArray} (w : World) (hS : S.size ≤ 1048576) (hT : T.size ≤ 1048576) (h : ¬ (tokB N (tl S) = true ∧ tokB M (tl T) = true ∧ N = M)) :
    Calls Tryd.prog 16 #[tv N S, tv M T] w fun e w' => e = .returned (.tuple #[tv 0 ByteArray.empty, .bool false]) ∧ Below w.heap.size w w' := by
  have HC : Hid (∀ W, Calls Tryd.prog 36 #[tv N S, tv M T, .func (.func 38) #[] #[]] W fun e w' => e = .returned (.tuple #[tv 0 ByteArray.empty, .bool false]) ∧ Below W.heap.size W w') := fun W => tog0 W hS hT h
  clear h
  have HA : Hid (Below w.heap.size w (((w.alloc (.cells #[.int .i64 N, .string S] 25)).alloc (.cells #[.int .i64 M, .string T] 25)).alloc (.cells #[.int .i64 0, .string ByteArray.empty] 25))) := (((Below.refl _ _).alloc (Nat.le_refl _) _).alloc (by simp) _).alloc (by simp; omega) _
  have HX : Hid (Lay (((w.alloc (.cells #[.int .i64 N, .string S] 25)).alloc (.cells #[.int .i64 M, .string T] 25)).alloc (.cells #[.int .i64 0, .string ByteArray.empty] 25)) w.heap.size (.int .i64 N) (.string S)) := ((Lay.made _ _ _ _).alloc _).alloc _
  have HY : Hid (Lay (((w.alloc (.cells #[.int .i64 N, .string S] 25)).alloc (.cells #[.int .i64 M, .string T] 25)).alloc (.cells #[.int .i64 0, .string ByteArray.empty] 25)) (w.heap.size + 1) (.int .i64 M) (.string T)) := by
    have := (Lay.made (w.alloc (.cells #[.int .i64 N, .string S] 25)) (.int .i64 M) (.string T) 25).alloc (.cells #[.int .i64 0, .string ByteArray.empty] 25)
    show Lay _ _ _ _
    simpa using this
  have HR : Hid (Lay (((w.alloc (.cells #[.int .i64 N, .string S] 25)).alloc (.cells #[.int .i64 M, .string T] 25)).alloc (.cells #[.int .i64 0, .string ByteArray.empty] 25)) (w.heap.size + 1 + 1) (.int .i64 0) (.string ByteArray.empty)) := by
    have := Lay.made ((w.alloc (.cells #[.int .i64 N, .string S] 25)).alloc (.cells #[.int .i64 M, .string T] 25)) (.int .i64 0) (.string ByteArray.empty) 25
    show Lay _ _ _ _
    simpa using this
  go_enter Tryd.func16, Tryd.ntmps16
  go_wp2_with fail
  refine (HC.out _).mono ?_
  rintro e w1 ⟨rfl, hb⟩
  have HA1 : Hid (Below w.heap.size w w1) := HA.out.trans (hb.mono HA.out.size)
  have HX1 : Hid (Lay w1 w.heap.size (.int .i64 N) (.string S)) := HX.out.below hb
  have HY1 : Hid (Lay w1 (w.heap.size + 1) (.int .i64 M) (.string T)) := HY.out.below hb
  have HR1 : Hid (Lay w1 (w.heap.size + 1 + 1) (.int .i64 0) (.string ByteArray.empty)) := HR.out.below hb
  clear hb
  obtain ⟨r0, r1, r2, r3⟩ := HR1.out
  have HFN : Hid _ := finT HR1.out HA1.out (by omega) (.int .i64 0) (.string ByteArray.empty)
  go_wp2
  obtain ⟨W, hW, hz, hbz⟩ := HFN.out
  have hW2 : (w1.setCell ⟨w.heap.size + 1 + 1, 0, none⟩ (.int .i64 0)).setCell ⟨w.heap.size + 1 + 1, 1, none⟩ (.string ByteArray.empty) = W := hW.symm
  rw [hW2]
  obtain ⟨z0, z1, _, _⟩ := hz
  exact bodyPost_ret (v := .tuple #[tv 0 ByteArray.empty, .bool false]) (by simp [results, Tryd.results16, go_sem, z0, z1]) rfl ⟨rfl, hbz⟩

set_option maxHeartbeats 1000000 in
theorem iXor (n : Nat) (F G : Nat → Bool) (w : World) (hn : n ≤ 12) :
    Calls Tryd.prog 16 #[tv (n : Int) (bs (tab n F)), tv (n : Int) (bs (tab n G))] w fun e w' => e = .returned (.tuple #[tv (n : Int) (bs (tab n fun p => F p ^^ G p)), .bool true]) ∧ Below w.heap.size w w' := by
  have HC : Hid (∀ W, Calls Tryd.prog 36 #[tv (n : Int) (bs (tab n F)), tv (n : Int) (bs (tab n G)), .func (.func 38) #[] #[]] W fun e w' => e = .returned (.tuple #[tv (n : Int) (bs (tab n fun p => F p ^^ G p)), .bool true]) ∧ Below W.heap.size W w') := fun W => togXor n F G W hn
  generalize bs (tab n fun p => F p ^^ G p) = RS at *
  generalize bs (tab n F) = S at *
  generalize bs (tab n G) = T at *
  have HA : Hid (Below w.heap.size w (((w.alloc (.cells #[.int .i64 (n : Int), .string S] 25)).alloc (.cells #[.int .i64 (n : Int), .string T] 25)).alloc (.cells #[.int .i64 0, .string ByteArray.empty] 25))) := (((Below.refl _ _).alloc (Nat.le_refl _) _).alloc (by simp) _).alloc (by simp; omega) _
  have HX : Hid (Lay (((w.alloc (.cells #[.int .i64 (n : Int), .string S] 25)).alloc (.cells #[.int .i64 (n : Int), .string T] 25)).alloc (.cells #[.int .i64 0, .string ByteArray.empty] 25)) w.heap.size (.int .i64 (n : Int)) (.string S)) := ((Lay.made _ _ _ _).alloc _).alloc _
  have HY : Hid (Lay (((w.alloc (.cells #[.int .i64 (n : Int), .string S] 25)).alloc (.cells #[.int .i64 (n : Int), .string T] 25)).alloc (.cells #[.int .i64 0, .string ByteArray.empty] 25)) (w.heap.size + 1) (.int .i64 (n : Int)) (.string T)) := by
    have := (Lay.made (w.alloc (.cells #[.int .i64 (n : Int), .string S] 25)) (.int .i64 (n : Int)) (.string T) 25).alloc (.cells #[.int .i64 0, .string ByteArray.empty] 25)
    show Lay _ _ _ _
    simpa using this
  have HR : Hid (Lay (((w.alloc (.cells #[.int .i64 (n : Int), .string S] 25)).alloc (.cells #[.int .i64 (n : Int), .string T] 25)).alloc (.cells #[.int .i64 0, .string ByteArray.empty] 25)) (w.heap.size + 1 + 1) (.int .i64 0) (.string ByteArray.empty)) := by
    have := Lay.made ((w.alloc (.cells #[.int .i64 (n : Int), .string S] 25)).alloc (.cells #[.int .i64 (n : Int), .string T] 25)) (.int .i64 0) (.string ByteArray.empty) 25
    show Lay _ _ _ _
    simpa using this
  go_enter Tryd.func16, Tryd.ntmps16
  go_wp2_with fail
  refine (HC.out _).mono ?_
  rintro e w1 ⟨rfl, hb⟩
  have HA1 : Hid (Below w.heap.size w w1) := HA.out.trans (hb.mono HA.out.size)
  have HX1 : Hid (Lay w1 w.heap.size (.int .i64 (n : Int)) (.string S)) := HX.out.below hb
  have HY1 : Hid (Lay w1 (w.heap.size + 1) (.int .i64 (n : Int)) (.string T)) := HY.out.below hb
  have HR1 : Hid (Lay w1 (w.heap.size + 1 + 1) (.int .i64 0) (.string ByteArray.empty)) := HR.out.below hb
  clear hb
  obtain ⟨r0, r1, r2, r3⟩ := HR1.out
  have HFN : Hid _ := finT HR1.out HA1.out (by omega) (.int .i64 (n : Int)) (.string RS)
  go_wp2
  obtain ⟨W, hW, hz, hbz⟩ := HFN.out
  have hW2 : (w1.setCell ⟨w.heap.size + 1 + 1, 0, none⟩ (.int .i64 (n : Int))).setCell ⟨w.heap.size + 1 + 1, 1, none⟩ (.string RS) = W := hW.symm
  rw [hW2]
  obtain ⟨z0, z1, _, _⟩ := hz
  exact bodyPost_ret (v := .tuple #[tv (n : Int) RS, .bool true]) (by simp [results, Tryd.results16, go_sem, z0, z1]) rfl ⟨rfl, hbz⟩

end Go.Proofs.YtkcbonocbdfbcaaDoor.Te2
