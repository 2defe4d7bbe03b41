/- Small texts of mine, one behind the other. -/
import Derived.Test.YteplffphkakliaaTe1
import Derived.Test.YteplffphkakliaaPkKj
/- The program's functions over tables: needs. -/
namespace Go.Proofs.Yteplffphkakliaa.Te4
open Go.RowKit
open Ta0 Ta1 Ta2 Tc2 Tc4 Tc5 Tc6 Tc7 Tc8 Td1 Td2 Td5 Te1 Ap0
open Nd0 (Kept Ints WInts set_other set_same lt_of_cell)
open Ss0 (bs bs_size ret_str bs_ext)
open Ss1 (tl tl_length tl_get tl_take bs_tl tl_bs tl_inj eqb)
set_option linter.unusedVariables false

theorem nd_upto (n : Nat) (F : Nat → Bool) (b : Nat) (hb : b < n) : ((List.range (2 ^ n)).any fun p => upto (2 ^ n) F p != upto (2 ^ n) F (p ^^^ 2 ^ (n - 1 - b))) = ndB n F b := by
  unfold ndB
  rw [Bool.eq_iff_iff, List.any_eq_true, List.any_eq_true]
  have e : ∀ p, p < 2 ^ n → (upto (2 ^ n) F p != upto (2 ^ n) F (p ^^^ 2 ^ (n - 1 - b))) = (F p != F (p ^^^ 2 ^ (n - 1 - b))) := fun p hp => by
    have h2 : p ^^^ 2 ^ (n - 1 - b) < 2 ^ n := Nat.xor_lt_two_pow hp (Nat.pow_lt_pow_right (by omega) (by omega))
    simp [upto, hp, h2]
  constructor
  · rintro ⟨p, hp, h⟩
    exact ⟨p, hp, by rw [e p (List.mem_range.1 hp)] at h; exact h⟩
  · rintro ⟨p, hp, h⟩
    exact ⟨p, hp, by rw [e p (List.mem_range.1 hp)]; exact h⟩

set_option maxHeartbeats 2000000 in
theorem iNeeds0 {N : Int} {S : ByteArray} (w : World) (hS : S.size ≤ 1048576) (h : tokB N (tl S) = false) :
    Calls Try.prog 15 #[tv N S] w fun e w' => (∃ a' c', e = .returned (.slice a' 0 c') ∧ WInts w' w.heap.size a' []) ∧ Below w.heap.size w w' := by
  have HO : Hid (∀ W, Calls Try.prog 46 #[tv N S] W fun e w' => e = .returned (.bool false) ∧ Below W.heap.size W w') := fun W => iOk0 W hS h
  have HN0 : Hid (ON w N S (.slice (some ⟨w.heap.size + 1, 0, none⟩) 0 0) [] ((w.alloc (.cells #[.int .i64 N, .string S] 26)).alloc (.cells #[] 3))) := ON.start w N S
  clear h
  go_enter Try.func15, Try.ntmps15
  go_wp2_with fail
  refine (HO.out _).mono ?_
  rintro e w1 ⟨rfl, hb⟩
  have HN1 : Hid (ON w N S (.slice (some ⟨w.heap.size + 1, 0, none⟩) 0 0) [] w1) := HN0.out.below hb
  clear hb
  go_wp2
  go_ret
  exact ⟨⟨_, _, rfl, Nat.zero_le _, .inl rfl⟩, HN1.out.bel⟩

/-- What stands while the program collects the bits that a table needs. -/
structure OP (w : World) (n m g q : Nat) (S : ByteArray) (F : Nat → Bool) (v : Value) (l : List Int) (W : World) : Prop where
  on : ON w (n : Int) S v l W
  pk : Lay W q (.int .i64 (n : Int)) (.slice (some ⟨g, 0, none⟩) m m)
  wds : Wds W g m F
  sep : ∀ i, v.ownBlock = some i → i ≠ g ∧ i ≠ q
theorem OP.below {w W W' : World} {n m g q : Nat} {S : ByteArray} {F : Nat → Bool} {v : Value} {l : List Int} (h : OP w n m g q S F v l W) (k : Below W.heap.size W W') : OP w n m g q S F v l W' :=
  ⟨h.on.below k, h.pk.below k, h.wds.below k, h.sep⟩
theorem OP.next {w W W' : World} {n m g q g5 len cp : Nat} {S : ByteArray} {F : Nat → Bool} {v : Value} {l l' : List Int} (h : OP w n m g q S F v l W) (hm : 1 ≤ m) (hk : Kept (fun k => v.ownBlock = some k) W W') (hg : v.ownBlock = some g5 ∨ W.heap.size ≤ g5) (ho : Ows W' (w.heap.size + 1) (.slice (some ⟨g5, 0, none⟩) len cp) l') : OP w n m g q S F (.slice (some ⟨g5, 0, none⟩) len cp) l' W' :=
  ⟨h.on.next hk ho, h.pk.kept hk (fun e => (h.sep _ e).2 rfl), h.wds.kept hk (fun e => (h.sep _ e).1 rfl), fun i hi => by
    have hi' : g5 = i := by simpa [Value.ownBlock] using hi
    subst hi'
    rcases hg with e | e
    · exact h.sep _ e
    · have h1 := h.wds.lt hm
      have h2 := h.pk.lt
      omega⟩

set_option maxRecDepth 100000 in
set_option maxHeartbeats 4000000 in
theorem iNeeds (n : Nat) (F : Nat → Bool) (w : World) (hn : n ≤ 12) :
    Calls Try.prog 15 #[tv (n : Int) (bs (tab n F))] w fun e w' => (∃ a' c', e = .returned (.slice a' (ndTo n F n).length c') ∧ WInts w' w.heap.size a' (ndTo n F n)) ∧ Below w.heap.size w w' := by
  have HO : Hid (∀ W, Calls Try.prog 46 #[tv (n : Int) (bs (tab n F))] W fun e w' => e = .returned (.bool true) ∧ Below W.heap.size W w') := fun W => iOk1 n F W hn
  have HPK : Hid (∀ W, Calls Try.prog 47 #[tv (n : Int) (bs (tab n F))] W fun e w' => ∃ g, e = .returned (pv n (nw n) g) ∧ W.heap.size ≤ g ∧ Wds w' g (nw n) (upto (2 ^ n) F) ∧ Below W.heap.size W w') := fun W => pack n F W hn
  have HND : Hid (∀ (W : World) (g b : Nat), b < n → Wds W g (nw n) (upto (2 ^ n) F) → Calls Try.prog 45 #[pv n (nw n) g, .int .i64 (b : Int)] W fun e w' => e = .returned (.bool (ndB n F b)) ∧ Below W.heap.size W w') := fun W g b h1 h2 => by
    have := needs n g b _ W hn h1 h2
    rwa [nd_upto n F b h1] at this
  have HY : Hid (∀ b, ndB n F b = true → ndTo n F (b + 1) = ndTo n F b ++ [(b : Int)]) := fun b h => ndTo_yes h
  have HNo : Hid (∀ b, ndB n F b = false → ndTo n F (b + 1) = ndTo n F b) := fun b h => ndTo_no h
  have HLe : Hid (∀ k, (ndTo n F k).length ≤ k) := fun k => ndTo_le n k F
  have HZ : Hid (ndTo n F 0 = []) := rfl
  have hnw := (nw_le hn).1
  generalize ndB n F = NB at *
  generalize ndTo n F = ND at *
  generalize bs (tab n F) = S at *
  generalize upto (2 ^ n) F = F1 at *
  generalize nw n = m at *
  have HN0 : Hid (ON w (n : Int) S (.slice (some ⟨w.heap.size + 1, 0, none⟩) 0 0) [] ((w.alloc (.cells #[.int .i64 (n : Int), .string S] 26)).alloc (.cells #[] 3))) := ON.start w n S
  go_enter Try.func15, Try.ntmps15
  go_wp2_with fail
  refine (HO.out _).mono ?_
  rintro e w1 ⟨rfl, hb⟩
  have HN1 : Hid (ON w (n : Int) S (.slice (some ⟨w.heap.size + 1, 0, none⟩) 0 0) (ND 0) w1) := by
    show ON _ _ _ _ _ _
    rw [HZ.out]; exact HN0.out.below hb
  clear hb
  obtain ⟨x0, x1, _, _⟩ := HN1.out.lay
  go_wp2_with fail
  refine (HPK.out _).mono ?_
  rintro e w2 ⟨g, rfl, hg, hw2, hb⟩
  have HN2 : Hid (OP w n m g w2.heap.size S F1 (.slice (some ⟨w.heap.size + 1, 0, none⟩) 0 0) (ND 0) (w2.alloc (.cells #[.int .i64 (n : Int), .slice (some ⟨g, 0, none⟩) m m] 60))) :=
    ⟨(HN1.out.below hb).below ((Below.refl _ _).alloc (Nat.le_refl _) _), Lay.made _ _ _ _, hw2.below ((Below.refl _ _).alloc (Nat.le_refl _) _), fun i hi => by
      have hi' : w.heap.size + 1 = i := by simpa [Value.ownBlock] using hi
      have h1 := HN1.out.siz
      have h2 := hb.size
      have h3 : w.heap.size + 1 < w1.heap.size := (HN1.out.own.lt (w.heap.size + 1) (by simp [Value.ownBlock])).2
      omega⟩
  clear hb hw2 x0 x1
  obtain ⟨x0, x1, _, _⟩ := HN2.out.on.lay
  go_wp2_with fail
  clear x0 x1
  go_loopw [3, 15] (fun v i wr => ∃ k : Nat, k ≤ n ∧ i = .int .i64 k ∧ OP w n m g w2.heap.size S F1 v (ND k) wr) (fun _ i _ => n - (intOf i).toNat)
  case atStart => exact ⟨0, Nat.zero_le _, rfl, HN2.out⟩
  case round =>
    obtain ⟨k, hk, rfl, hop⟩ := hrel
    have HOP : Hid (OP w n m g w2.heap.size S F1 u3 (ND k) wr) := hop
    clear hop
    by_cases hlt : k < n
    · have hkz : (k : Int) < (n : Int) := by omega
      obtain ⟨q0, q1, _, _⟩ := HOP.out.pk
      have HNk : Hid (∀ (W : World), Wds W g m F1 → Calls Try.prog 45 #[pv n m g, .int .i64 (k : Int)] W fun e w' => e = .returned (.bool (NB k)) ∧ Below W.heap.size W w') := fun W h => HND.out W g k hlt h
      cases hB : NB k
      · rw [hB] at HNk
        have HT : Hid (ND (k + 1) = ND k) := HNo.out k hB
        clear hB
        go_wp2_with fail
        refine (HNk.out _ HOP.out.wds).mono ?_
        rintro e w3 ⟨rfl, hb⟩
        have HOP3 : Hid (OP w n m g w2.heap.size S F1 u3 (ND k) w3) := HOP.out.below hb
        clear hb q0 q1
        go_wp2
        go_roundw
        case rel => exact ⟨k + 1, by omega, by go_num, by rw [HT.out]; exact HOP3.out⟩
        case measure => simp [intOf]; omega
      · rw [hB] at HNk
        have HT : Hid (ND (k + 1) = ND k ++ [(k : Int)]) := HY.out k hB
        have HL : Hid ((ND k).length ≤ k) := HLe.out k
        clear hB
        go_wp2_with fail
        refine (HNk.out _ HOP.out.wds).mono ?_
        rintro e w3 ⟨rfl, hb⟩
        have HOP3 : Hid (OP w n m g w2.heap.size S F1 u3 (ND k) w3) := HOP.out.below hb
        clear hb q0 q1
        have hsz := HOP3.out.on.siz
        go_wp2_with (at_builtin; go_must (refine app_int _ rfl _ _ rfl (w.heap.size + 1) u3 (ND k) (k : Int) rfl rfl HOP3.out.on.own hsz (by have := HL.out; omega) ?_; intro g5 cp5 w5 ho5 hk5 hg5; have HO5 : Hid (OP w n m g w2.heap.size S F1 (.slice (some ⟨g5, 0, none⟩) ((ND k).length + 1) cp5) (ND k ++ [(k : Int)]) w5) := HOP3.out.next hnw hk5 hg5 ho5; clear ho5 hk5 hg5))
        go_roundw
        case rel => exact ⟨k + 1, by omega, by go_num, by rw [HT.out]; exact HO5.out⟩
        case measure => simp [intOf]; omega
    · have HKN : Hid (k = n) := by show _ = _; omega
      obtain ⟨av, cv, hv, hwi⟩ := HOP.out.on.wints
      rw [HKN.out] at hv hwi
      subst hv
      have HWI : Hid (WInts wr w.heap.size av (ND n)) := hwi
      have HBX : Hid (Below w.heap.size w wr) := HOP.out.on.bel
      clear hwi HOP
      go_wp2
      go_ret
      exact ⟨⟨_, _, rfl, HWI.out⟩, HBX.out⟩

end Go.Proofs.Yteplffphkakliaa.Te4

/- The program's functions over tables: half, at. -/
namespace Go.Proofs.Yteplffphkakliaa.Te3
open Go.RowKit
open Ta0 Ta1 Ta2 Tc2 Tc4 Tc5 Tc6 Tc7 Tc8 Tc10 Td1 Td2 Te1
open Nd0 (Kept Ints set_other set_same lt_of_cell)
open Ss0 (bs bs_size ret_str bs_ext)
open Ss1 (tl tl_length tl_get tl_take bs_tl tl_bs tl_inj eqb)
set_option linter.unusedVariables false

set_option maxHeartbeats 2000000 in
theorem iHalf0 {N b : Int} {S : ByteArray} (w : World) (hS : S.size ≤ 1048576) (h : ¬ (tokB N (tl S) = true ∧ N ≠ 0 ∧ bitB b = true)) :
    Calls Try.prog 20 #[tv N S, .int .i64 b] w fun e w' => e = .returned (.tuple #[tv 0 ByteArray.empty, .bool false]) ∧ Below w.heap.size w w' := by
  have HA : Hid (Below w.heap.size w ((w.alloc (.cells #[.int .i64 N, .string S] 26)).alloc (.cells #[.int .i64 0, .string ByteArray.empty] 26))) := ((Below.refl _ _).alloc (Nat.le_refl _) _).alloc (by simp) _
  have HX : Hid (Lay ((w.alloc (.cells #[.int .i64 N, .string S] 26)).alloc (.cells #[.int .i64 0, .string ByteArray.empty] 26)) w.heap.size (.int .i64 N) (.string S)) := (Lay.made _ _ _ _).alloc _
  have HR : Hid (Lay ((w.alloc (.cells #[.int .i64 N, .string S] 26)).alloc (.cells #[.int .i64 0, .string ByteArray.empty] 26)) (w.heap.size + 1) (.int .i64 0) (.string ByteArray.empty)) := by
    have := Lay.made (w.alloc (.cells #[.int .i64 N, .string S] 26)) (.int .i64 0) (.string ByteArray.empty) 26
    show Lay _ _ _ _
    simpa using this
  cases h1 : tokB N (tl S)
  · have HO : Hid (∀ W, Calls Try.prog 46 #[tv N S] W fun e w' => e = .returned (.bool false) ∧ Below W.heap.size W w') := fun W => iOk0 W hS h1
    clear h h1
    go_enter Try.func20, Try.ntmps20
    go_wp2_with fail
    refine (HO.out _).mono ?_
    rintro e w1 ⟨rfl, hb⟩
    have HA1 : Hid (Below w.heap.size w w1) := HA.out.trans (hb.mono HA.out.size)
    have HR1 : Hid (Lay w1 (w.heap.size + 1) (.int .i64 0) (.string ByteArray.empty)) := HR.out.below hb
    clear hb
    obtain ⟨r0, r1, r2, r3⟩ := HR1.out
    have HFN : Hid _ := finT HR1.out HA1.out (by omega) (.int .i64 0) (.string ⟨#[]⟩)
    go_wp2
    obtain ⟨W, hW, hz, hbz⟩ := HFN.out
    rw [← hW]
    obtain ⟨z0, z1, _, _⟩ := hz
    exact bodyPost_ret (v := .tuple #[tv 0 ⟨#[]⟩, .bool false]) (by simp [results, Try.results20, go_sem, z0, z1]) rfl ⟨rfl, hbz⟩
  have HO : Hid (∀ W, Calls Try.prog 46 #[tv N S] W fun e w' => e = .returned (.bool true) ∧ Below W.heap.size W w') := fun W => by
    have := iTableOk N S W hS
    rwa [h1] at this
  by_cases hN : N = 0
  · have hNb : (N == 0) = true := by rw [hN]; rfl
    clear h h1 hN
    go_enter Try.func20, Try.ntmps20
    go_wp2_with fail
    refine (HO.out _).mono ?_
    rintro e w1 ⟨rfl, hb⟩
    have HA1 : Hid (Below w.heap.size w w1) := HA.out.trans (hb.mono HA.out.size)
    have HR1 : Hid (Lay w1 (w.heap.size + 1) (.int .i64 0) (.string ByteArray.empty)) := HR.out.below hb
    obtain ⟨x0, x1, _, _⟩ := HX.out.below hb
    clear hb
    obtain ⟨r0, r1, r2, r3⟩ := HR1.out
    have HFN : Hid _ := finT HR1.out HA1.out (by omega) (.int .i64 0) (.string ⟨#[]⟩)
    go_wp2
    obtain ⟨W, hW, hz, hbz⟩ := HFN.out
    rw [← hW]
    obtain ⟨z0, z1, _, _⟩ := hz
    exact bodyPost_ret (v := .tuple #[tv 0 ⟨#[]⟩, .bool false]) (by simp [results, Try.results20, go_sem, z0, z1]) rfl ⟨rfl, hbz⟩
  · have hNb : (N == 0) = false := beq_eq_false_iff_ne.2 hN
    have HI : Hid (∀ W, Calls Try.prog 57 #[.int .i64 b] W fun e w' => e = .returned (.bool false) ∧ w' = W) := fun W => by
      have hb0 : bitB b = false := by
        cases hB : bitB b
        · rfl
        · exact absurd ⟨h1, hN, hB⟩ h
      have := iBitOk b W
      rwa [hb0] at this
    clear h h1 hN
    go_enter Try.func20, Try.ntmps20
    go_wp2_with fail
    refine (HO.out _).mono ?_
    rintro e w1 ⟨rfl, hb⟩
    have HA1 : Hid (Below w.heap.size w w1) := HA.out.trans (hb.mono HA.out.size)
    have HR1 : Hid (Lay w1 (w.heap.size + 1) (.int .i64 0) (.string ByteArray.empty)) := HR.out.below hb
    obtain ⟨x0, x1, _, _⟩ := HX.out.below hb
    clear hb
    obtain ⟨r0, r1, r2, r3⟩ := HR1.out
    have HFN : Hid _ := finT HR1.out HA1.out (by omega) (.int .i64 0) (.string ⟨#[]⟩)
    go_wp2_with (go_at_call 57; refine (HI.out _).mono ?_; rintro e w' ⟨rfl, rfl⟩)
    obtain ⟨W, hW, hz, hbz⟩ := HFN.out
    rw [← hW]
    obtain ⟨z0, z1, _, _⟩ := hz
    exact bodyPost_ret (v := .tuple #[tv 0 ⟨#[]⟩, .bool false]) (by simp [results, Try.results20, go_sem, z0, z1]) rfl ⟨rfl, hbz⟩

set_option maxRecDepth 100000 in
set_option maxHeartbeats 2000000 in
theorem iHalf (n b : Nat) (F : Nat → Bool) (w : World) (hn : n ≤ 11) (hb : b ≤ 1) :
    Calls Try.prog 20 #[tv ((n + 1 : Nat) : Int) (bs (tab (n + 1) F)), .int .i64 (b : Int)] w fun e w' => e = .returned (.tuple #[tv (n : Int) (bs (tab n fun p => F (b * 2 ^ n + p))), .bool true]) ∧ Below w.heap.size w w' := by
  have HO : Hid (∀ W, Calls Try.prog 46 #[tv ((n + 1 : Nat) : Int) (bs (tab (n + 1) F))] W fun e w' => e = .returned (.bool true) ∧ Below W.heap.size W w') := fun W => iOk1 (n + 1) F W (by omega)
  have HI : Hid (∀ W, Calls Try.prog 57 #[.int .i64 (b : Int)] W fun e w' => e = .returned (.bool true) ∧ w' = W) := fun W => by
    have hb1 : bitB (b : Int) = true := decide_eq_true (by omega)
    have := iBitOk (b : Int) W
    rwa [hb1] at this
  have HPK : Hid (∀ W, Calls Try.prog 47 #[tv ((n + 1 : Nat) : Int) (bs (tab (n + 1) F))] W fun e w' => ∃ g, e = .returned (pv (n + 1) (nw (n + 1)) g) ∧ W.heap.size ≤ g ∧ Wds w' g (nw (n + 1)) (upto (2 ^ (n + 1)) F) ∧ Below W.heap.size W w') := fun W => pack (n + 1) F W (by omega)
  have HHF : Hid (∀ W g, Wds W g (nw (n + 1)) (upto (2 ^ (n + 1)) F) → Calls Try.prog 58 #[pv (n + 1) (nw (n + 1)) g, .int .i64 (b : Int)] W fun e w' => ∃ g2, e = .returned (pv n (nw n) g2) ∧ W.heap.size ≤ g2 ∧ Wds w' g2 (nw n) (upto (2 ^ n) fun p => F (b * 2 ^ n + p)) ∧ Below W.heap.size W w') := fun W g h => half n g b F W hn hb h
  have HTB : Hid (∀ W g, Wds W g (nw n) (upto (2 ^ n) fun p => F (b * 2 ^ n + p)) → Calls Try.prog 53 #[pv n (nw n) g] W fun e w' => e = .returned (tv (n : Int) (bs (tab n fun p => F (b * 2 ^ n + p)))) ∧ Below W.heap.size W w') := fun W g h => by
    have := table n g _ W (by omega) h
    rwa [tab_upto] at this
  have hNb : (((n + 1 : Nat) : Int) == 0) = false := beq_eq_false_iff_ne.2 (by omega)
  generalize bs (tab n fun p => F (b * 2 ^ n + p)) = RS at *
  generalize (upto (2 ^ n) fun p => F (b * 2 ^ n + p)) = H at *
  generalize bs (tab (n + 1) F) = S at *
  generalize upto (2 ^ (n + 1)) F = F1 at *
  generalize nw n = m at *
  generalize nw (n + 1) = m2 at *
  generalize n + 1 = N at *
  have HA : Hid (Below w.heap.size w ((w.alloc (.cells #[.int .i64 (N : Int), .string S] 26)).alloc (.cells #[.int .i64 0, .string ByteArray.empty] 26))) := ((Below.refl _ _).alloc (Nat.le_refl _) _).alloc (by simp) _
  have HX : Hid (Lay ((w.alloc (.cells #[.int .i64 (N : Int), .string S] 26)).alloc (.cells #[.int .i64 0, .string ByteArray.empty] 26)) w.heap.size (.int .i64 (N : Int)) (.string S)) := (Lay.made _ _ _ _).alloc _
  have HR : Hid (Lay ((w.alloc (.cells #[.int .i64 (N : Int), .string S] 26)).alloc (.cells #[.int .i64 0, .string ByteArray.empty] 26)) (w.heap.size + 1) (.int .i64 0) (.string ByteArray.empty)) := by
    have := Lay.made (w.alloc (.cells #[.int .i64 (N : Int), .string S] 26)) (.int .i64 0) (.string ByteArray.empty) 26
    show Lay _ _ _ _
    simpa using this
  go_enter Try.func20, Try.ntmps20
  go_wp2_with fail
  refine (HO.out _).mono ?_
  rintro e w1 ⟨rfl, hb⟩
  have HA1 : Hid (Below w.heap.size w w1) := HA.out.trans (hb.mono HA.out.size)
  have HR1 : Hid (Lay w1 (w.heap.size + 1) (.int .i64 0) (.string ByteArray.empty)) := HR.out.below hb
  obtain ⟨x0, x1, _, _⟩ := HX.out.below hb
  clear hb
  go_wp2_with (go_at_call 57; refine (HI.out _).mono ?_; rintro e w' ⟨rfl, hw'⟩; have hw2 := hw'.symm; clear hw'; subst hw2)
  refine (HPK.out _).mono ?_
  rintro e w2 ⟨g, rfl, hg, hw, hb⟩
  have HA2 : Hid (Below w.heap.size w w2) := HA1.out.trans (hb.mono HA1.out.size)
  have HR2 : Hid (Lay w2 (w.heap.size + 1) (.int .i64 0) (.string ByteArray.empty)) := HR1.out.below hb
  clear hb x0 x1
  go_wp2_with fail
  refine (HHF.out _ g hw).mono ?_
  rintro e w3 ⟨g2, rfl, hg2, hw2, hb⟩
  have HA3 : Hid (Below w.heap.size w w3) := HA2.out.trans (hb.mono HA2.out.size)
  have HR3 : Hid (Lay w3 (w.heap.size + 1) (.int .i64 0) (.string ByteArray.empty)) := HR2.out.below hb
  clear hb hw
  go_wp2_with fail
  refine (HTB.out _ g2 hw2).mono ?_
  rintro e w4 ⟨rfl, hb⟩
  have HA4 : Hid (Below w.heap.size w w4) := HA3.out.trans (hb.mono HA3.out.size)
  have HR4 : Hid (Lay w4 (w.heap.size + 1) (.int .i64 0) (.string ByteArray.empty)) := HR3.out.below hb
  clear hb hw2
  obtain ⟨r0, r1, r2, r3⟩ := HR4.out
  have HFN : Hid _ := finT HR4.out HA4.out (by omega) (.int .i64 (n : Int)) (.string RS)
  go_wp2
  obtain ⟨W, hW, hz, hbz⟩ := HFN.out
  rw [← hW]
  obtain ⟨z0, z1, _, _⟩ := hz
  exact bodyPost_ret (v := .tuple #[tv (n : Int) RS, .bool true]) (by simp [results, Try.results20, go_sem, z0, z1]) rfl ⟨rfl, hbz⟩

theorem or_bit {y x : Nat} (hy : y < 100000) (hx : x ≤ 1) : bits .or .i64 ((2 * y : Nat) : Int) (x : Int) = ((2 * y + x : Nat) : Int) := by
  rw [bor62 (by omega) (by omega)]
  have h := Nat.two_pow_add_eq_or_of_lt (i := 1) (b := x) (by omega) y
  rw [show (2 : Nat) ^ 1 * y = 2 * y by omega] at h
  rw [h]

end Go.Proofs.Yteplffphkakliaa.Te3
