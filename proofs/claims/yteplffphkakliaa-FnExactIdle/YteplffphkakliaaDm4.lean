/- The model's Idle. -/
import Derived.Test.YteplffphkakliaaDm1
import Derived.Test.YteplffphkakliaaDp6
namespace Go.Proofs.Yteplffphkakliaa.Dm4
open Go.RowKit
open Ta0 Ta1 Ta2 Ta3 Tc2 Tc5 Td1 Td2 Td4 Td5 Ap0 De1 Dm1
open Dp6 (idTo_le)
open Nd0 (Kept Ints WInts IntsIn set_other set_same lt_of_cell)
open Ss0 (bs bs_size)
open Ss1 (tl)
set_option linter.unusedVariables false

/-- Whether x is among the first j. -/
def isTo (l : List Int) (x : Int) (j : Nat) : Bool := (l.take j).any fun y => y == x
theorem isTo_next {l : List Int} {x : Int} {j : Nat} (h : j < l.length) : isTo l x (j + 1) = (isTo l x j || (l[j] == x)) := by
  unfold isTo
  rw [List.take_succ_eq_append_getElem h, List.any_append]
  simp
theorem isTo_nd {n k : Nat} (F : Nat → Bool) (h : k < n) : isTo (ndTo n F n) (k : Int) (ndTo n F n).length = ndB n F k := by
  unfold isTo
  rw [List.take_length, Bool.eq_iff_iff, List.any_eq_true]
  unfold ndTo
  constructor
  · rintro ⟨y, hy, e⟩
    rw [List.mem_map] at hy
    obtain ⟨b, hb, rfl⟩ := hy
    have : b = k := by have := beq_iff_eq.1 e; omega
    rw [← this]
    exact (List.mem_filter.1 hb).2
  · intro hk
    exact ⟨(k : Int), List.mem_map.2 ⟨k, List.mem_filter.2 ⟨List.mem_range.2 h, hk⟩, rfl⟩, by simp⟩

set_option maxRecDepth 100000 in
set_option maxHeartbeats 4000000 in
theorem sIdle0 {N : Int} {S : ByteArray} (ra : Option Addr) (L c : Nat) (w : World) (hS : S.size ≤ 1048576) (h : ¬ (tokB N (tl S) = true ∧ (L : Int) = N)) :
    Calls Try.prog 31 #[.slice ra L c, tv N S] w fun e w' => (∃ a' c', e = .returned (.slice a' 0 c') ∧ WInts w' w.heap.size a' []) ∧ Below w.heap.size w w' := by
  have HRU : Hid (∀ W, Calls Try.prog 59 #[.slice ra L c, tv N S] W fun e w' => e = .returned (.bool false) ∧ Below W.heap.size W w') := fun W => sOkR0 ra L c W hS h
  have HN0 : Hid (ON w N S (.slice (some ⟨w.heap.size + 1, 0, none⟩) 0 0) [] ((w.alloc (.cells #[.int .i64 N, .string S] 26)).alloc (.cells #[] 3))) := ON.start w N S
  clear h
  go_enter Try.func31, Try.ntmps31
  go_wp2_with fail
  refine (HRU.out _).mono ?_
  rintro e w1 ⟨rfl, hb⟩
  have HN1 : Hid (ON w N S (.slice (some ⟨w.heap.size + 1, 0, none⟩) 0 0) [] w1) := HN0.out.below hb
  clear hb
  go_wp2
  go_ret
  exact ⟨⟨_, _, rfl, Nat.zero_le _, .inl rfl⟩, HN1.out.bel⟩

/-- What stands while the model collects. -/
structure OS (w : World) (N : Int) (S : ByteArray) (B U : Nat) (an : Option Addr) (nd : List Int) (v : Value) (l : List Int) (W : World) : Prop where
  on : ON w N S v l W
  nin : IntsIn W B U an nd
  sep : ∀ i, v.ownBlock = some i → i < B ∨ U ≤ i
  siz : U ≤ W.heap.size
theorem OS.next {w W W' : World} {N : Int} {B U g5 len cp : Nat} {S : ByteArray} {an : Option Addr} {nd : List Int} {v : Value} {l l' : List Int} (h : OS w N S B U an nd v l W) (hk : Kept (fun k => v.ownBlock = some k) W W') (hg : v.ownBlock = some g5 ∨ W.heap.size ≤ g5) (ho : Ows W' (w.heap.size + 1) (.slice (some ⟨g5, 0, none⟩) len cp) l') : OS w N S B U an nd (.slice (some ⟨g5, 0, none⟩) len cp) l' W' :=
  ⟨h.on.next hk ho, h.nin.kept hk (fun b h1 h2 h3 => by have := h.sep _ h3; omega), fun i hi => by
    have hi' : g5 = i := by simpa [Value.ownBlock] using hi
    subst hi'
    rcases hg with e | e
    · exact h.sep _ e
    · have := h.siz; omega, Nat.le_trans h.siz hk.size⟩

set_option maxRecDepth 100000 in
set_option maxHeartbeats 4000000 in
theorem sIdle (n : Nat) (F : Nat → Bool) (ra : Option Addr) (c : Nat) (w : World) (hn : n ≤ 12) :
    Calls Try.prog 31 #[.slice ra n c, tv (n : Int) (bs (tab n F))] w fun e w' => (∃ a' c', e = .returned (.slice a' (idTo n F n).length c') ∧ WInts w' w.heap.size a' (idTo n F n)) ∧ Below w.heap.size w w' := by
  have HRU : Hid (∀ W, Calls Try.prog 59 #[.slice ra n c, tv (n : Int) (bs (tab n F))] W fun e w' => e = .returned (.bool true) ∧ Below W.heap.size W w') := fun W => sOkR n F ra c W hn
  have HND : Hid (∀ W, Calls Try.prog 63 #[tv (n : Int) (bs (tab n F))] W fun e w' => (∃ a' c', e = .returned (.slice a' (ndTo n F n).length c') ∧ WInts w' W.heap.size a' (ndTo n F n)) ∧ Below W.heap.size W w') := fun W => sNeeds n F W hn
  have HIS : Hid (∀ k, k < n → isTo (ndTo n F n) (k : Int) (ndTo n F n).length = ndB n F k) := fun k hk => isTo_nd F hk
  have HY : Hid (∀ b, ndB n F b = false → idTo n F (b + 1) = idTo n F b ++ [(b : Int)]) := fun b h => idTo_yes h
  have HNo : Hid (∀ b, ndB n F b = true → idTo n F (b + 1) = idTo n F b) := fun b h => idTo_no h
  have HLe : Hid (∀ k, (idTo n F k).length ≤ k) := fun k => idTo_le n k F
  have HZ : Hid (idTo n F 0 = []) := rfl
  have hnl : (ndTo n F n).length ≤ n := ndTo_le n n F
  generalize ndB n F = NB at *
  generalize idTo n F = ID at *
  generalize ndTo n F n = nd at *
  generalize bs (tab n F) = S at *
  have HN0 : Hid (ON w (n : Int) S (.slice (some ⟨w.heap.size + 1, 0, none⟩) 0 0) [] ((w.alloc (.cells #[.int .i64 (n : Int), .string S] 26)).alloc (.cells #[] 3))) := ON.start w n S
  go_enter Try.func31, Try.ntmps31
  go_wp2_with fail
  refine (HRU.out _).mono ?_
  rintro e w1 ⟨rfl, hb⟩
  have HN1 : Hid (ON w (n : Int) S (.slice (some ⟨w.heap.size + 1, 0, none⟩) 0 0) [] w1) := HN0.out.below hb
  clear hb
  obtain ⟨x0, x1, _, _⟩ := HN1.out.lay
  go_wp2_with fail
  refine (HND.out _).mono ?_
  rintro e w2 ⟨⟨an, cn, rfl, hwi⟩, hb⟩
  have HO2 : Hid (OS w (n : Int) S w1.heap.size w2.heap.size an nd (.slice (some ⟨w.heap.size + 1, 0, none⟩) 0 0) (ID 0) w2) := by
    show OS _ _ _ _ _ _ _ _ _ _
    rw [HZ.out]
    refine ⟨HN1.out.below hb, WInts.within hwi, fun i hi => ?_, Nat.le_refl _⟩
    have hi' : w.heap.size + 1 = i := by simpa [Value.ownBlock] using hi
    have := (HN1.out.own.lt (w.heap.size + 1) (by simp [Value.ownBlock])).2
    omega
  clear hb hwi x0 x1
  generalize hB : w1.heap.size = B at *
  generalize hU : w2.heap.size = U at *
  clear hB hU HN0 HN1
  go_wp2_with fail
  go_loopw [5, 7] (fun v i wr => ∃ k : Nat, k ≤ n ∧ i = .int .i64 k ∧ OS w (n : Int) S B U an nd v (ID k) wr) (fun _ i _ => n - (intOf i).toNat)
  case atStart => exact ⟨0, Nat.zero_le _, rfl, HO2.out⟩
  case round =>
    obtain ⟨k, hk, rfl, hop⟩ := hrel
    have HOP : Hid (OS w (n : Int) S B U an nd u5 (ID k) wr) := hop
    clear hop
    obtain ⟨x0, x1, _, _⟩ := HOP.out.on.lay
    by_cases hlt : k < n
    · have hkz : (k : Int) < (n : Int) := by omega
      go_wp2_with fail
      go_loopw [8, 9] (fun t i wi => ∃ j : Nat, j ≤ nd.length ∧ i = .int .i64 j ∧ t = .bool (isTo nd (k : Int) j) ∧ wi = wr) (fun _ i _ => nd.length - (intOf i).toNat)
      case atStart => exact ⟨0, Nat.zero_le _, rfl, rfl, rfl⟩
      case round =>
        obtain ⟨j, hj, rfl, rfl, rfl⟩ := hrel
        by_cases hjl : j < nd.length
        · have hjz : (j : Int) < (nd.length : Int) := by omega
          have HP : Hid (isTo nd (k : Int) (j + 1) = (isTo nd (k : Int) j || (nd[j] == (k : Int)))) := isTo_next hjl
          rcases HOP.out.nin.2 with h0 | ⟨yb, yo, rfl, _, _, hc⟩
          · omega
          have p0 := (hc j hjl).1
          clear hc
          generalize nd[j] = y at *
          generalize isTo nd (k : Int) j = t at *
          cases hy : (y == (k : Int))
          · rw [hy, Bool.or_false] at HP
            go_wp2
            go_roundw
            case rel => exact ⟨j + 1, by omega, by go_num, by rw [HP.out], (by first | trivial | rfl)⟩
            case measure => simp [intOf]; omega
          · rw [hy, Bool.or_true] at HP
            go_wp2
            go_roundw
            case rel => exact ⟨j + 1, by omega, by go_num, by rw [HP.out], (by first | trivial | rfl)⟩
            case measure => simp [intOf]; omega
        · have hje : j = nd.length := by omega
          subst hje
          rw [HIS.out k hlt]
          cases hB : NB k
          · have HT : Hid (ID (k + 1) = ID k ++ [(k : Int)]) := HY.out k hB
            have HL : Hid ((ID k).length ≤ k) := HLe.out k
            have hsz := HOP.out.on.siz
            clear hB
            go_wp2_with (at_builtin; go_must (refine app_int _ rfl _ _ rfl (w.heap.size + 1) u5 (ID k) (k : Int) rfl rfl HOP.out.on.own hsz (by have := HL.out; omega) ?_; intro g5 cp5 w5 ho5 hk5 hg5; have HO5 : Hid (OS w (n : Int) S B U an nd (.slice (some ⟨g5, 0, none⟩) ((ID k).length + 1) cp5) (ID k ++ [(k : Int)]) w5) := HOP.out.next hk5 hg5 ho5; clear ho5 hk5 hg5))
            go_roundw
            case rel => exact ⟨k + 1, by omega, by go_num, by rw [HT.out]; exact HO5.out⟩
            case measure => simp [intOf]; omega
          · have HT : Hid (ID (k + 1) = ID k) := HNo.out k hB
            clear hB
            go_wp2
            go_roundw
            case rel => exact ⟨k + 1, by omega, by go_num, by rw [HT.out]; exact HOP.out⟩
            case measure => simp [intOf]; omega
    · have HKN : Hid (k = n) := by show _ = _; omega
      obtain ⟨av, cv, hv, hwi⟩ := HOP.out.on.wints
      rw [HKN.out] at hv hwi
      subst hv
      have HWI : Hid (WInts wr w.heap.size av (ID n)) := hwi
      have HBX : Hid (Below w.heap.size w wr) := HOP.out.on.bel
      clear hwi HOP
      go_wp2
      go_ret
      exact ⟨⟨_, _, rfl, HWI.out⟩, HBX.out⟩

end Go.Proofs.Yteplffphkakliaa.Dm4
