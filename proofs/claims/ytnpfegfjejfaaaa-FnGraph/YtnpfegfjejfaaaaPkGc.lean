/- Small texts of mine, one behind the other. -/
import Derived.Laws.IdiomStrings
import Derived.Laws.IdiomCopy
import Derived.Test.YtnpfegfjejfaaaaPkHk
import Derived.Test.YtnpfegfjejfaaaaTc1
/- Packed tables: the table of one; how many bits are set; the bits in use; whether it needs a bit. -/
namespace Go.Proofs.Ytnpfegfjejfaaaa.Tc6
open Go.RowKit
open Ta0 Ta1 Tc2 Tc4 Tc5
open Nd0 (Kept set_other set_same lt_of_cell)
open Ss0 (bs bs_size ret_str)
open Ss1 (tl tl_length tl_get tl_take bs_tl tl_bs tl_inj eqb)
set_option linter.unusedVariables false

theorem infoB : (Try.prog.info? 5).map (fun i => (i.zero, i.size, i.bytes)) = some (some (.int .u8 0), 1, 1) := by kernel_rfl
def noughtsB (n : Nat) : Array Value := madeCells #[.int .u8 0] (n * 1)
theorem noughtsB_get (n j : Nat) (h : j < n) : (noughtsB n)[j]? = some (.int .u8 0) := by
  simp only [noughtsB, madeCells, Array.getElem?_map, Array.getElem?_range]
  rw [if_pos (by omega)]
  simp only [Option.map_some]
  have e : j % 1 = 0 := Nat.mod_one j
  exact congrArg (fun m => some ((#[.int .u8 0] : Array Value)[m]!)) e
theorem makeBytes (n : Nat) (hn : n ≤ 1048576) (w : World) :
    (Instr.makeSlice 22 (.int .i64 (n : Int)) (.int .i64 (n : Int))).run Try.prog w = .ok (.slice (some ⟨w.heap.size, 0, none⟩) n n) (w.alloc (.cells (noughtsB n) 5)) := by
  obtain ⟨i, hi, hzz⟩ := Option.map_eq_some_iff.1 infoB
  simp only [Prod.mk.injEq] at hzz
  obtain ⟨hz, hs, hb⟩ := hzz
  have h := run_make (P := Try.prog) w 22 5 i _ Try.underlying22 hi hz .i64 .i64 n n (by omega) (Int.le_refl _) (by rw [hb]; omega) (by omega)
  rw [hs] at h
  simpa [noughtsB, Value.cells] using h
/-- Signs in block c, the first k of them written. -/
def Sgs (W : World) (c P k : Nat) (G : Nat → Bool) : Prop := ∀ j, j < P → (∃ v : Int, W.cell? ⟨c, j, none⟩ = some (.int .u8 v) ∧ (j < k → v = ((sgn (G j)).toNat : Int))) ∧ W.frozen? ⟨c, j, none⟩ = false
theorem Sgs.kept {W W' : World} {c P k : Nat} {G : Nat → Bool} (h : Sgs W c P k G) {S : Nat → Prop} (q : Kept S W W') (hs : ¬ S c) : Sgs W' c P k G := fun j hj => by
  obtain ⟨⟨v, h1, h2⟩, h3⟩ := h j hj
  have hg : c < W.heap.size := World.block_lt_of_cell? _ _ h1
  exact ⟨⟨v, by rw [q.cell (p := ⟨c, j, none⟩) hg hs]; exact h1, h2⟩, by rw [q.frozen (p := ⟨c, j, none⟩) hg hs]; exact h3⟩
theorem Sgs.below {W W' : World} {c P k : Nat} {G : Nat → Bool} (h : Sgs W c P k G) (q : Below W.heap.size W W') : Sgs W' c P k G := h.kept (S := fun _ => False) (Kept.ofBelow q) (fun h => h)
theorem Sgs.set {W : World} {c P k : Nat} {G : Nat → Bool} (h : Sgs W c P k G) (v : Int) (hv : v = ((sgn (G k)).toNat : Int)) : Sgs (W.setCell ⟨c, k, none⟩ (.int .u8 v)) c P (k + 1) G := fun j hj => by
  obtain ⟨⟨u, h1, h2⟩, h3⟩ := h j hj
  by_cases e : j = k
  · subst e
    exact ⟨⟨v, set_same h1, fun _ => hv⟩, by rw [World.frozen?_setCell]; exact h3⟩
  · exact ⟨⟨u, by rw [set_other (by simp <;> omega)]; exact h1, fun x => h2 (by omega)⟩, by rw [World.frozen?_setCell]; exact h3⟩
theorem Sgs.made (W : World) (P : Nat) (G : Nat → Bool) : Sgs (W.alloc (.cells (noughtsB P) 5)) W.heap.size P 0 G := fun j hj =>
  ⟨⟨0, by rw [World.cell?_alloc_new]; exact noughtsB_get _ _ hj, fun x => by omega⟩, by simp⟩
theorem Sgs.text {W : World} {c n : Nat} {G : Nat → Bool} (h : Sgs W c (2 ^ n) (2 ^ n) G) : (convert 22 9 (.slice (some ⟨c, 0, none⟩) (2 ^ n) (2 ^ n))).run Try.prog W = .ok (.string (bs (tab n G))) W := by
  have := run_convert_bytes_back (P := Try.prog) W 22 9 5 ⟨c, 0, none⟩ (2 ^ n) (tab n G) Try.underlying22 Try.underlying5 Try.underlying9 (fun j hj => by
    obtain ⟨⟨v, h1, h2⟩, _⟩ := h j (by rw [tab_length] at hj; exact hj)
    rw [tab_get, ← h2 (by rw [tab_length] at hj; exact hj)]
    rw [Addr.add_lit, Nat.zero_add]; exact h1)
  rw [tab_length] at this
  exact this

set_option maxRecDepth 100000 in
set_option maxHeartbeats 2000000 in
theorem table (n g : Nat) (G : Nat → Bool) (w : World) (hn : n ≤ 12) (hW : Wds w g (nw n) G) :
    Calls Try.prog 58 #[pv n (nw n) g] w fun e w' => e = .returned (tv (n : Int) (bs (tab n G))) ∧ Below w.heap.size w w' := by
  obtain ⟨hp, hl⟩ := p12 hn
  have hnw := nw_le hn
  have hgl := hW.lt (by omega)
  have HW : Hid (Wds w g (nw n) G) := hW
  have HSI : Hid (∀ W, Calls Try.prog 95 #[pv n (nw n) g] W fun e w' => e = .returned (.int .i64 ((2 ^ n : Nat) : Int)) ∧ Below W.heap.size W w') := fun W => size n g W hn
  have HAT : Hid (∀ (W : World) (k : Nat), k < 2 ^ n → Wds W g (nw n) G → Calls Try.prog 66 #[pv n (nw n) g, .int .i64 (k : Int)] W fun e w' => e = .returned (.int .i64 ((G k).toNat : Int)) ∧ Below W.heap.size W w') := fun W k h1 h2 => at_ n g k G W hn h1 h2
  have HTX : Hid (∀ W c, Sgs W c (2 ^ n) (2 ^ n) G → (convert 22 9 (.slice (some ⟨c, 0, none⟩) (2 ^ n) (2 ^ n))).run Try.prog W = .ok (.string (bs (tab n G))) W) := fun W c h => h.text
  have hmk := makeBytes (2 ^ n) (by omega)
  clear hW
  generalize bs (tab n G) = S at *
  generalize nw n = m at *
  generalize 2 ^ n = P at *
  go_enter Try.func58, Try.ntmps58
  go_wp2_with fail
  refine (HSI.out _).mono ?_
  rintro e w1 ⟨rfl, hb1⟩
  have HX0 : Hid (Lay w1 w.heap.size (.int .i64 (n : Int)) (.slice (some ⟨g, 0, none⟩) m m)) := (((Lay.made w _ _ _).alloc _).below hb1)
  have HR0 : Hid (Lay w1 (w.heap.size + 1) (.int .i64 0) (.string ByteArray.empty)) := by
    have := (Lay.made (w.alloc (.cells #[.int .i64 (n : Int), .slice (some ⟨g, 0, none⟩) m m] 76)) (.int .i64 0) (.string ByteArray.empty) 25).below hb1
    show Lay _ _ _ _
    simpa using this
  have HB1 : Hid (Below w.heap.size w w1) := (((Below.refl _ _).alloc (Nat.le_refl _) _).alloc (by simp) _).trans (hb1.mono (by simp; omega))
  have hs1 : w.heap.size + 2 ≤ w1.heap.size := by simpa using hb1.size
  clear hb1
  go_wp2_with fail
  clear hmk
  have HX1 : Hid (Lay (w1.alloc (.cells (noughtsB P) 5)) w.heap.size (.int .i64 (n : Int)) (.slice (some ⟨g, 0, none⟩) m m)) := HX0.out.alloc _
  go_loopw [10] (fun i wr => ∃ k : Nat, k ≤ P ∧ i = .int .i64 k ∧ Lay wr w.heap.size (.int .i64 (n : Int)) (.slice (some ⟨g, 0, none⟩) m m) ∧ Lay wr (w.heap.size + 1) (.int .i64 0) (.string ByteArray.empty) ∧ Sgs wr w1.heap.size P k G ∧ Below w.heap.size w wr) (fun i _ => P - (intOf i).toNat)
  case atStart => exact ⟨0, Nat.zero_le _, rfl, HX0.out.alloc _, HR0.out.alloc _, Sgs.made _ _ _, HB1.out.alloc HB1.out.size _⟩
  case round =>
    obtain ⟨k, hk, rfl, hx, hr, hq, hb⟩ := hrel
    have HX : Hid (Lay wr w.heap.size (.int .i64 (n : Int)) (.slice (some ⟨g, 0, none⟩) m m)) := hx
    have HR : Hid (Lay wr (w.heap.size + 1) (.int .i64 0) (.string ByteArray.empty)) := hr
    have HQ : Hid (Sgs wr w1.heap.size P k G) := hq
    have HB : Hid (Below w.heap.size w wr) := hb
    clear hb hq
    obtain ⟨x0, x1, _, _⟩ := hx
    by_cases hlt : k < P
    · clear hr
      have hkz : (k : Int) < (P : Int) := by omega
      cases hG : G k
      all_goals
        have HG : Hid (G k = _) := hG
        go_wp2_with fail
        refine (HAT.out _ k hlt (HW.out.below HB.out)).mono ?_
        rw [hG]
        clear hG
        rintro e w3 ⟨rfl, hb3⟩
        have HQ3 : Hid (Sgs w3 w1.heap.size P k G) := HQ.out.below hb3
        have HX3 : Hid (Lay w3 w.heap.size (.int .i64 (n : Int)) (.slice (some ⟨g, 0, none⟩) m m)) := HX.out.below hb3
        have HR3 : Hid (Lay w3 (w.heap.size + 1) (.int .i64 0) (.string ByteArray.empty)) := HR.out.below hb3
        have HB3 : Hid (Below w.heap.size w w3) := HB.out.trans (hb3.mono HB.out.size)
        clear hb3
        obtain ⟨⟨v, v0, _⟩, v1⟩ := HQ3.out k hlt
        go_wp2
        go_roundw
        case rel => exact ⟨k + 1, by omega, by go_num, HX3.out.kept (S := fun b => b = w1.heap.size) (kset (S := fun b => b = w1.heap.size) (Kept.refl (fun b => b = w1.heap.size) w3) rfl _) (by omega), HR3.out.kept (S := fun b => b = w1.heap.size) (kset (S := fun b => b = w1.heap.size) (Kept.refl (fun b => b = w1.heap.size) w3) rfl _) (by omega), HQ3.out.set _ (by rw [HG.out]; rfl), HB3.out.trans ((kset (S := fun b => b = w1.heap.size) (Kept.refl (fun b => b = w1.heap.size) w3) rfl _).below (fun b hb => by omega) HB3.out.size)⟩
        case measure => simp [intOf]; omega
    · obtain ⟨r0, r1, r2, r3⟩ := hr
      have hkP : k = P := by omega
      have hcv := HTX.out wr w1.heap.size (by have := HQ.out; rwa [hkP] at this)
      clear hkP
      have HZ := HR.out.put (.int .i64 (n : Int)) (.string S)
      have HK : Kept (fun b => b = w.heap.size + 1) wr ((wr.setCell ⟨w.heap.size + 1, 0, none⟩ (.int .i64 (n : Int))).setCell ⟨w.heap.size + 1, 1, none⟩ (.string S)) := kset (S := fun b => b = w.heap.size + 1) (kset (S := fun b => b = w.heap.size + 1) (Kept.refl (fun b => b = w.heap.size + 1) wr) rfl _) rfl _
      have HBZ := HB.out.trans (HK.below (B := w.heap.size) (fun b hb => by omega) HB.out.size)
      have HH : Hid (∃ W, W = (wr.setCell ⟨w.heap.size + 1, 0, none⟩ (.int .i64 (n : Int))).setCell ⟨w.heap.size + 1, 1, none⟩ (.string S) ∧ Lay W (w.heap.size + 1) (.int .i64 (n : Int)) (.string S) ∧ Below w.heap.size w W) := ⟨_, rfl, HZ, HBZ⟩
      clear HZ HK HBZ
      go_wp2
      obtain ⟨W, hW, hz, hbz⟩ := HH.out
      rw [← hW]
      obtain ⟨z0, z1, _, _⟩ := hz
      exact bodyPost_ret (v := tv (n : Int) S) (by simp [results, Try.results58, go_sem, z0, z1]) rfl ⟨rfl, hbz⟩

end Go.Proofs.Ytnpfegfjejfaaaa.Tc6

/- Packed tables: how many bits are set; the bits in use; whether it needs a bit. -/
namespace Go.Proofs.Ytnpfegfjejfaaaa.Tc7
open Go.RowKit
open Ta0 Ta1 Tc2 Tc4 Tc5
open Nd0 (Kept set_other set_same lt_of_cell)
open Tc1 (ones)
set_option linter.unusedVariables false

set_option maxRecDepth 100000 in
set_option maxHeartbeats 2000000 in
theorem count (n g : Nat) (G : Nat → Bool) (w : World) (hn : n ≤ 12) (hW : Wds w g (nw n) G) :
    Calls Try.prog 106 #[pv n (nw n) g] w fun e w' => e = .returned (.int .i64 ((cnt G (64 * nw n) : Nat) : Int)) ∧ Below w.heap.size w w' := by
  have hnw := nw_le hn
  have hgl := hW.lt (by omega)
  have HW : Hid (∀ i, i < nw n → w.cell? ⟨g, i, none⟩ = some (.int .u64 (wd G i : Int))) := fun i hi => (hW i hi).1
  have HB : Hid (Below w.heap.size w (w.alloc (.cells #[.int .i64 (n : Int), .slice (some ⟨g, 0, none⟩) (nw n) (nw n)] 76))) := (Below.refl _ _).alloc (Nat.le_refl _) _
  clear hW
  generalize nw n = m at *
  go_enter Try.func106, Try.ntmps106
  go_wp2
  go_loop [3, 9] (fun c i => ∃ k : Nat, k ≤ m ∧ i = .int .i64 k ∧ c = .int .i64 ((cnt G (64 * k) : Nat) : Int)) (fun _ i => m - (intOf i).toNat)
  case atStart => exact ⟨0, Nat.zero_le _, rfl, rfl⟩
  case round =>
    obtain ⟨k, hk, rfl, rfl⟩ := hrel
    have hc := cnt_le G (64 * k)
    by_cases hlt : k < m
    · have hkz : (k : Int) < (m : Int) := by omega
      have c0 := HW.out k hlt
      have hwl := wd_lt G k
      have HC : Hid (cnt G (64 * (k + 1)) = cnt G (64 * k) + cnt (wd G k).testBit 64) := cnt_wd G k
      have hc2 := cnt_le (wd G k).testBit 64
      have HO : Hid (∀ W, Calls Try.prog 108 #[.int .u64 (wd G k : Int)] W fun e w' => e = .returned (.int .i64 (cnt (wd G k).testBit 64 : Nat)) ∧ w' = W) := fun W => ones _ hwl W
      generalize cnt (wd G k).testBit 64 = d at *
      generalize wd G k = x at *
      generalize cnt G (64 * k) = y at *
      go_wp2_with (go_at_call 108; refine (HO.out _).mono ?_; rintro e w' ⟨rfl, rfl⟩)
      go_round
      case rel => exact ⟨k + 1, by omega, by go_num, by rw [HC.out]; go_num⟩
      case measure => simp [intOf]; omega
    · have HE : Hid (k = m) := by show _ = _; omega
      go_wp2
      go_ret
      exact ⟨ret_int (by rw [HE.out]), HB.out⟩

theorem ret_uint {a b : Int} (h : a = b) : Ending.returned (.int .u64 a) = .returned (.int .u64 b) := by rw [h]
theorem use_wrap (P : Nat) : IntKind.u64.wrap (IntKind.u64.wrap ((2 : Int) ^ (min P 64)) - 1) = ((use P : Nat) : Int) := by
  unfold use
  by_cases h : P < 64
  · have h1 : 2 ^ P < 18446744073709551616 := Nat.lt_of_lt_of_le (Nat.pow_lt_pow_right (by omega) h) (by decide)
    have h2 := Nat.one_le_two_pow (n := P)
    rw [if_pos h, Nat.min_eq_left (by omega), pcast, wrapu h1, show ((2 ^ P : Nat) : Int) - 1 = ((2 ^ P - 1 : Nat) : Int) by omega, wrapu (by omega)]
  · rw [if_neg h, Nat.min_eq_right (by omega)]
    decide

set_option maxHeartbeats 1000000 in
theorem inUse (n m g : Nat) (w : World) (hn : n ≤ 12) (hm : m = nw n) :
    Calls Try.prog 57 #[pv n m g] w fun e w' => e = .returned (.int .u64 ((use (2 ^ n) : Nat) : Int)) ∧ Below w.heap.size w w' := by
  subst hm
  obtain ⟨hp, hl⟩ := p12 hn
  have HSI : Hid (∀ W, Calls Try.prog 95 #[pv n (nw n) g] W fun e w' => e = .returned (.int .i64 ((2 ^ n : Nat) : Int)) ∧ Below W.heap.size W w') := fun W => size n g W hn
  have HAL : Hid (Below w.heap.size w (w.alloc (.cells #[.int .i64 (n : Int), .slice (some ⟨g, 0, none⟩) (nw n) (nw n)] 76))) := (Below.refl _ _).alloc (Nat.le_refl _) _
  generalize nw n = m at *
  generalize 2 ^ n = P at *
  go_enter Try.func57, Try.ntmps57
  go_wp2_with (go_at_call 95; refine (HSI.out _).mono ?_; rintro e w1 ⟨rfl, hb⟩; have HB : Hid (Below w.heap.size w w1) := HAL.out.trans (hb.mono HAL.out.size); clear hb)
  go_ret
  exact ⟨ret_uint (use_wrap P), HB.out⟩

/-- What stands while a bit is looked for. -/
structure SN (w : World) (n m g : Nat) (G : Nat → Bool) (W : World) : Prop where
  lay : Lay W w.heap.size (.int .i64 (n : Int)) (.slice (some ⟨g, 0, none⟩) m m)
  wds : Wds W g m G
  bel : Below w.heap.size w W
theorem SN.below {w : World} {n m g : Nat} {G : Nat → Bool} {W W' : World} (h : SN w n m g G W) (k : Below W.heap.size W W') : SN w n m g G W' :=
  ⟨h.lay.below k, h.wds.below k, h.bel.trans (k.mono h.bel.size)⟩
theorem SN.drew {w : World} {n m g : Nat} {G : Nat → Bool} {W : World} (h : SN w n m g G W) : SN w n m g G W.drew :=
  ⟨h.lay.kept (S := fun _ => False) (Kept.refl _ _).drew (fun h => h), h.wds.kept (S := fun _ => False) (Kept.refl _ _).drew (fun h => h), below_drewN h.bel 1⟩

end Go.Proofs.Ytnpfegfjejfaaaa.Tc7

/- Packed tables: what is not. -/
namespace Go.Proofs.Ytnpfegfjejfaaaa.Tc8
open Go.RowKit
open Ta0 Ta1 Tc2 Tc4 Tc5 Tc7
open Nd0 (Kept set_other set_same lt_of_cell)
set_option linter.unusedVariables false

/-- Words in block g, the first k of them those of H. -/
def Wdk (W : World) (g m k : Nat) (H : Nat → Bool) : Prop := ∀ j, j < m → (∃ v : Int, W.cell? ⟨g, j, none⟩ = some (.int .u64 v) ∧ (j < k → v = (wd H j : Int))) ∧ W.frozen? ⟨g, j, none⟩ = false
theorem Wdk.kept {W W' : World} {c P k : Nat} {G : Nat → Bool} (h : Wdk W c P k G) {S : Nat → Prop} (q : Kept S W W') (hs : ¬ S c) : Wdk W' c P k G := fun j hj => by
  obtain ⟨⟨v, h1, h2⟩, h3⟩ := h j hj
  have hg : c < W.heap.size := World.block_lt_of_cell? _ _ h1
  exact ⟨⟨v, by rw [q.cell (p := ⟨c, j, none⟩) hg hs]; exact h1, h2⟩, by rw [q.frozen (p := ⟨c, j, none⟩) hg hs]; exact h3⟩
theorem Wdk.below {W W' : World} {c P k : Nat} {G : Nat → Bool} (h : Wdk W c P k G) (q : Below W.heap.size W W') : Wdk W' c P k G := h.kept (S := fun _ => False) (Kept.ofBelow q) (fun h => h)
theorem Wdk.set {W : World} {c P k : Nat} {G : Nat → Bool} (h : Wdk W c P k G) (v : Int) (hv : v = (wd G k : Int)) : Wdk (W.setCell ⟨c, k, none⟩ (.int .u64 v)) c P (k + 1) G := fun j hj => by
  obtain ⟨⟨u, h1, h2⟩, h3⟩ := h j hj
  by_cases e : j = k
  · subst e
    exact ⟨⟨v, set_same h1, fun _ => hv⟩, by rw [World.frozen?_setCell]; exact h3⟩
  · exact ⟨⟨u, by rw [set_other (by simp <;> omega)]; exact h1, fun x => h2 (by omega)⟩, by rw [World.frozen?_setCell]; exact h3⟩
theorem Wdk.start {W : World} {g m : Nat} {F : Nat → Bool} (h : Wds W g m F) (H : Nat → Bool) : Wdk W g m 0 H := fun j hj => ⟨⟨_, (h j hj).1, fun x => by omega⟩, (h j hj).2⟩
theorem Wdk.done {W : World} {g m : Nat} {H : Nat → Bool} (h : Wdk W g m m H) : Wds W g m H := fun j hj => by
  obtain ⟨⟨v, h1, h2⟩, h3⟩ := h j hj
  rw [h2 hj] at h1
  exact ⟨h1, h3⟩

theorem flip64 {x : Nat} (h : x < 18446744073709551616) : 18446744073709551615 ^^^ x = 18446744073709551615 - x := by
  refine Nat.eq_of_testBit_eq fun j => ?_
  have h2 := Nat.testBit_two_pow_sub_succ (n := 64) (x := x) h j
  have h1 := Nat.testBit_two_pow_sub_one 64 j
  rw [show (2 : Nat) ^ 64 - 1 = 18446744073709551615 from rfl] at h1
  rw [show 18446744073709551615 - x = 2 ^ 64 - (x + 1) by omega, h2, Nat.testBit_xor, h1]
  by_cases hj : j < 64
  · simp [hj]
  · have : x.testBit j = false := Nat.testBit_lt_two_pow (Nat.lt_of_lt_of_le h (Nat.le_trans (by decide : 18446744073709551616 ≤ 2 ^ 64) (Nat.pow_le_pow_right (by omega) (by omega))))
    simp [hj, this]
theorem sother {W : World} {b c o p : Nat} {u v : Value} (h : W.cell? ⟨b, o, none⟩ = some u) (hb : c ≠ b) : (W.setCell ⟨c, p, none⟩ v).cell? ⟨b, o, none⟩ = some u := by
  rw [set_other (fun e => hb (congrArg Addr.block e))]; exact h

/-- What stands while the words of a new packed table are written. -/
structure WN (w : World) (n m g q g2 : Nat) (F H : Nat → Bool) (k : Nat) (W : World) : Prop where
  lay : Lay W w.heap.size (.int .i64 (n : Int)) (.slice (some ⟨g, 0, none⟩) m m)
  res : Lay W (w.heap.size + 1) (.int .i64 0) (.slice none 0 0)
  new : Lay W q (.int .i64 (n : Int)) (.slice (some ⟨g2, 0, none⟩) m m)
  wds : Wds W g m F
  wdk : Wdk W g2 m k H
  bel : Below w.heap.size w W
theorem WN.below {w : World} {n m g q g2 k : Nat} {F H : Nat → Bool} {W W' : World} (h : WN w n m g q g2 F H k W) (b : Below W.heap.size W W') : WN w n m g q g2 F H k W' :=
  ⟨h.lay.below b, h.res.below b, h.new.below b, h.wds.below b, h.wdk.below b, h.bel.trans (b.mono h.bel.size)⟩
theorem WN.drew {w : World} {n m g q g2 k : Nat} {F H : Nat → Bool} {W : World} (h : WN w n m g q g2 F H k W) : WN w n m g q g2 F H k W.drew :=
  h.below (below_drewN (Below.refl _ _) 1)
theorem WN.set {w : World} {n m g q g2 k : Nat} {F H : Nat → Bool} {W : World} (h : WN w n m g q g2 F H k W) (hg : g ≠ g2) (h0 : w.heap.size + 2 ≤ g2) (hq : g2 ≠ q) (v : Int) (hv : v = (wd H k : Int)) : WN w n m g q g2 F H (k + 1) (W.setCell ⟨g2, k, none⟩ (.int .u64 v)) := by
  have K := kset (S := fun b => b = g2) (Kept.refl (fun b => b = g2) W) (b := g2) (o := k) rfl (.int .u64 v)
  exact ⟨h.lay.kept K (by omega), h.res.kept K (by omega), h.new.kept K (fun e => hq e.symm), h.wds.kept K hg, h.wdk.set v hv, h.bel.trans (K.below (fun b hb => by omega) h.bel.size)⟩

set_option maxRecDepth 100000 in
set_option maxHeartbeats 2000000 in
theorem not_ (n g : Nat) (F : Nat → Bool) (w : World) (hn : n ≤ 12) (hW : Wds w g (nw n) (upto (2 ^ n) F)) :
    Calls Try.prog 67 #[pv n (nw n) g] w fun e w' => ∃ g2, e = .returned (pv n (nw n) g2) ∧ w.heap.size ≤ g2 ∧ Wds w' g2 (nw n) (upto (2 ^ n) fun p => !F p) ∧ Below w.heap.size w w' := by
  have hnw := nw_le hn
  have hgl := hW.lt (by omega)
  have HW : Hid (Wds w g (nw n) (upto (2 ^ n) F)) := hW
  have HNP : Hid (∀ W, Calls Try.prog 54 #[.int .i64 (n : Int)] W fun e w' => ∃ g, e = .returned (pv n (nw n) g) ∧ W.heap.size ≤ g ∧ Wds w' g (nw n) (fun _ => false) ∧ Below W.heap.size W w') := fun W => newPacked n W hn
  have HIU : Hid (∀ W, Calls Try.prog 57 #[pv n (nw n) g] W fun e w' => e = .returned (.int .u64 ((use (2 ^ n) : Nat) : Int)) ∧ Below W.heap.size W w') := fun W => inUse n (nw n) g W hn rfl
  have HNO : Hid (∀ i, i < nw n → (18446744073709551615 - wd (upto (2 ^ n) F) i) &&& use (2 ^ n) = wd (upto (2 ^ n) fun p => !F p) i) := fun i hi => wd_not F n i hi
  have hus : use (2 ^ n) < 18446744073709551616 := by
    unfold use; split
    · rename_i h; exact Nat.lt_of_le_of_lt (Nat.sub_le _ _) (Nat.lt_of_lt_of_le (Nat.pow_lt_pow_right (by omega) h) (by decide))
    · decide
  clear hW
  generalize use (2 ^ n) = us at *
  generalize (upto (2 ^ n) fun p => !F p) = H at *
  generalize upto (2 ^ n) F = F at *
  generalize nw n = m at *
  go_enter Try.func67, Try.ntmps67
  go_wp2_with fail
  refine (HNP.out _).mono ?_
  rintro e w1 ⟨g2, rfl, hg, hw1, hb1⟩
  have HX0 : Lay w1 w.heap.size (.int .i64 (n : Int)) (.slice (some ⟨g, 0, none⟩) m m) := (((Lay.made w _ _ _).alloc _).below hb1)
  have HR0 : Lay w1 (w.heap.size + 1) (.int .i64 0) (.slice none 0 0) := by
    have := (Lay.made (w.alloc (.cells #[.int .i64 (n : Int), .slice (some ⟨g, 0, none⟩) m m] 76)) (.int .i64 0) (.slice none 0 0) 76).below hb1
    simpa using this
  have hsz1 : w.heap.size + 2 ≤ g2 := by simpa using hg
  have hg2l := hw1.lt (by omega)
  have HBA := ((Below.refl w.heap.size w).alloc (Nat.le_refl _) (.cells #[.int .i64 (n : Int), .slice (some ⟨g, 0, none⟩) m m] 76)).alloc (by simp) (.cells #[.int .i64 0, .slice none 0 0] 76)
  have HB1 : Below w.heap.size w w1 := HBA.trans (hb1.mono (by simp; omega))
  have HS0 : Hid (WN w n m g w1.heap.size g2 F H 0 (w1.alloc (.cells #[.int .i64 (n : Int), .slice (some ⟨g2, 0, none⟩) m m] 76))) :=
    ⟨HX0.alloc _, HR0.alloc _, Lay.made _ _ _ _, (HW.out.below HB1).kept (S := fun _ => False) ((Kept.refl _ _).alloc _) (fun h => h), (Wdk.start hw1 H).kept (S := fun _ => False) ((Kept.refl _ _).alloc _) (fun h => h), HB1.alloc HB1.size _⟩
  have hgw1 : w.heap.size ≤ w1.heap.size := HB1.size
  have hww : w.heap.size < w1.heap.size := by omega
  obtain ⟨y0, y1, _, _⟩ := HX0
  clear hb1 hw1 hg HR0 HBA HB1
  go_wp2_with fail
  clear y0 y1
  go_loopw [12] (fun i wr => ∃ k : Nat, k ≤ m ∧ i = .int .i64 k ∧ WN w n m g w1.heap.size g2 F H k wr) (fun i _ => m - (intOf i).toNat)
  case atStart => exact ⟨0, Nat.zero_le _, rfl, HS0.out⟩
  case round =>
    obtain ⟨k, hk, rfl, hS⟩ := hrel
    have HS : Hid (WN w n m g w1.heap.size g2 F H k wr) := hS
    clear hS
    by_cases hlt : k < m
    · have hkz : (k : Int) < (m : Int) := by omega
      obtain ⟨x0, x1, _, _⟩ := HS.out.lay
      obtain ⟨q0, q1, _, _⟩ := HS.out.new
      have v0 := (HS.out.wds k hlt).1
      have hvl := wd_lt F k
      have HNk := HNO.out k hlt
      have HNK : Hid ((18446744073709551615 - wd F k) &&& us = wd H k) := HNk
      clear HNk
      generalize hX : wd F k = x at *
      clear hX
      have HV : Hid (bits .and .u64 (bits .xor .u64 IntKind.u64.max (x : Int)) (us : Int) = (wd H k : Int)) := by
        show _ = _
        rw [show IntKind.u64.max = ((18446744073709551615 : Nat) : Int) from rfl, bits_xor_u64_nat _ _ (by omega) hvl, flip64 hvl, bits_and_u64_nat _ _ (by omega) hus, HNK.out]
      go_wp2_with fail
      go_region_held3 (fun w' => w'.cell? ⟨w1.heap.size, 1, none⟩ = some (.slice (some ⟨g2, 0, none⟩) m m) ∧ w'.cell? ⟨w.heap.size, 0, none⟩ = some (.int .i64 (n : Int)) ∧ w'.cell? ⟨w.heap.size, 1, none⟩ = some (.slice (some ⟨g, 0, none⟩) m m)) ((first | exact ⟨q1, x0, x1⟩ | exact ⟨hS3.new.c1, hS3.lay.c0, hS3.lay.c1⟩ | exact ⟨sother hS3.new.c1 (by omega), sother hS3.lay.c0 (by omega), sother hS3.lay.c1 (by omega)⟩)) ((go_at_call 57; refine (HIU.out _).mono ?_; rintro e w3 ⟨rfl, hb3⟩; have hS3 := HS.out.drew.below hb3; obtain ⟨⟨vv, vc, _⟩, vf⟩ := hS3.wdk k hlt))
      go_wp2
      go_roundw
      case rel => exact ⟨k + 1, by omega, by go_num, hS3.set (by omega) hsz1 (by omega) _ HV.out⟩
      case measure => simp [intOf]; omega
    · have hkm : k = m := by omega
      have HS2 : Hid (WN w n m g w1.heap.size g2 F H m wr) := by have h := HS.out; rw [hkm] at h; exact h
      clear hkm HS
      obtain ⟨r0, r1, r2, r3⟩ := HS2.out.res
      obtain ⟨q0, q1, _, _⟩ := HS2.out.new
      have HZ := HS2.out.res.put (.int .i64 (n : Int)) (.slice (some ⟨g2, 0, none⟩) m m)
      have HK : Kept (fun b => b = w.heap.size + 1) wr ((wr.setCell ⟨w.heap.size + 1, 0, none⟩ (.int .i64 (n : Int))).setCell ⟨w.heap.size + 1, 1, none⟩ (.slice (some ⟨g2, 0, none⟩) m m)) := kset (S := fun b => b = w.heap.size + 1) (kset (S := fun b => b = w.heap.size + 1) (Kept.refl (fun b => b = w.heap.size + 1) wr) rfl _) rfl _
      have HWZ := HS2.out.wdk.done.kept HK (by omega)
      have HBZ := HS2.out.bel.trans (HK.below (B := w.heap.size) (fun b hb => by omega) HS2.out.bel.size)
      have HH : Hid (∃ W, W = (wr.setCell ⟨w.heap.size + 1, 0, none⟩ (.int .i64 (n : Int))).setCell ⟨w.heap.size + 1, 1, none⟩ (.slice (some ⟨g2, 0, none⟩) m m) ∧ Lay W (w.heap.size + 1) (.int .i64 (n : Int)) (.slice (some ⟨g2, 0, none⟩) m m) ∧ Wds W g2 m H ∧ Below w.heap.size w W) := ⟨_, rfl, HZ, HWZ, HBZ⟩
      clear HZ HK HWZ HBZ
      go_wp2
      obtain ⟨W, hW, hz, hwz, hbz⟩ := HH.out
      rw [← hW]
      obtain ⟨z0, z1, _, _⟩ := hz
      exact bodyPost_ret (v := pv n m g2) (by simp [results, Try.results67, go_sem, z0, z1]) rfl ⟨g2, rfl, by omega, hwz, hbz⟩

end Go.Proofs.Ytnpfegfjejfaaaa.Tc8

/- Packed tables: two put together, by and or by exclusive or. -/
namespace Go.Proofs.Ytnpfegfjejfaaaa.Tc9
open Go.RowKit
open Ta0 Ta1 Tc2 Tc4 Tc5 Tc7 Tc8
open Nd0 (Kept set_other set_same lt_of_cell)
set_option linter.unusedVariables false

/-- What stands while the words of two are put together. -/
structure WT (w : World) (n m g h q g2 : Nat) (F G H : Nat → Bool) (k : Nat) (W : World) : Prop where
  lay : Lay W w.heap.size (.int .i64 (n : Int)) (.slice (some ⟨g, 0, none⟩) m m)
  lay2 : Lay W (w.heap.size + 1) (.int .i64 (n : Int)) (.slice (some ⟨h, 0, none⟩) m m)
  res : Lay W (w.heap.size + 2) (.int .i64 0) (.slice none 0 0)
  new : Lay W q (.int .i64 (n : Int)) (.slice (some ⟨g2, 0, none⟩) m m)
  wds : Wds W g m F
  wds2 : Wds W h m G
  wdk : Wdk W g2 m k H
  bel : Below w.heap.size w W
theorem WT.below {w : World} {n m g h q g2 k : Nat} {F G H : Nat → Bool} {W W' : World} (s : WT w n m g h q g2 F G H k W) (b : Below W.heap.size W W') : WT w n m g h q g2 F G H k W' :=
  ⟨s.lay.below b, s.lay2.below b, s.res.below b, s.new.below b, s.wds.below b, s.wds2.below b, s.wdk.below b, s.bel.trans (b.mono s.bel.size)⟩
theorem WT.drew {w : World} {n m g h q g2 k : Nat} {F G H : Nat → Bool} {W : World} (s : WT w n m g h q g2 F G H k W) : WT w n m g h q g2 F G H k W.drew :=
  s.below (below_drewN (Below.refl _ _) 1)
theorem WT.set {w : World} {n m g h q g2 k : Nat} {F G H : Nat → Bool} {W : World} (s : WT w n m g h q g2 F G H k W) (hg : g ≠ g2) (hh : h ≠ g2) (h0 : w.heap.size + 3 ≤ g2) (hq : g2 ≠ q) (v : Int) (hv : v = (wd H k : Int)) : WT w n m g h q g2 F G H (k + 1) (W.setCell ⟨g2, k, none⟩ (.int .u64 v)) := by
  have K := kset (S := fun b => b = g2) (Kept.refl (fun b => b = g2) W) (b := g2) (o := k) rfl (.int .u64 v)
  exact ⟨s.lay.kept K (by omega), s.lay2.kept K (by omega), s.res.kept K (by omega), s.new.kept K (fun e => hq e.symm), s.wds.kept K hg, s.wds2.kept K hh, s.wdk.set v hv, s.bel.trans (K.below (fun b hb => by omega) s.bel.size)⟩

end Go.Proofs.Ytnpfegfjejfaaaa.Tc9

/- Packed tables: a half. -/
namespace Go.Proofs.Ytnpfegfjejfaaaa.Tc10
open Go.RowKit
open Ta0 Ta1 Tc2 Tc4 Tc5 Tc7 Tc8
open Nd0 (Kept set_other set_same lt_of_cell)
set_option linter.unusedVariables false

/-- What stands while a half is made. -/
structure WH (w : World) (n m n2 m2 g q g2 : Nat) (F H : Nat → Bool) (W : World) : Prop where
  lay : Lay W w.heap.size (.int .i64 (n : Int)) (.slice (some ⟨g, 0, none⟩) m m)
  res : Lay W (w.heap.size + 1) (.int .i64 0) (.slice none 0 0)
  new : Lay W q (.int .i64 (n2 : Int)) (.slice (some ⟨g2, 0, none⟩) m2 m2)
  wds : Wds W g m F
  wdk : Wdk W g2 m2 0 H
  bel : Below w.heap.size w W
theorem WH.below {w : World} {n m n2 m2 g q g2 : Nat} {F H : Nat → Bool} {W W' : World} (h : WH w n m n2 m2 g q g2 F H W) (b : Below W.heap.size W W') : WH w n m n2 m2 g q g2 F H W' :=
  ⟨h.lay.below b, h.res.below b, h.new.below b, h.wds.below b, h.wdk.below b, h.bel.trans (b.mono h.bel.size)⟩
theorem WH.drewN {w : World} {n m n2 m2 g q g2 : Nat} {F H : Nat → Bool} {W : World} (h : WH w n m n2 m2 g q g2 F H W) (k : Nat) : WH w n m n2 m2 g q g2 F H (W.drewN k) :=
  h.below (below_drewN (Below.refl _ _) k)

theorem WH.drew {w : World} {n m n2 m2 g q g2 : Nat} {F H : Nat → Bool} {W : World} (h : WH w n m n2 m2 g q g2 F H W) : WH w n m n2 m2 g q g2 F H W.drew := h.drewN 1

/-- Behind the store of the one word. -/
theorem fin1 {w : World} {n n2 g q g2 : Nat} {F H : Nat → Bool} {W : World} (h : WH w n 1 n2 1 g q g2 F H W) (hq : g2 ≠ q) (h0 : w.heap.size + 2 ≤ g2) (_ : True ∨ True) :
    Lay (W.setCell ⟨g2, 0, none⟩ (.int .u64 (wd H 0 : Int))) (w.heap.size + 1) (.int .i64 0) (.slice none 0 0) ∧ Lay (W.setCell ⟨g2, 0, none⟩ (.int .u64 (wd H 0 : Int))) q (.int .i64 (n2 : Int)) (.slice (some ⟨g2, 0, none⟩) 1 1) ∧ Wds (W.setCell ⟨g2, 0, none⟩ (.int .u64 (wd H 0 : Int))) g2 1 H ∧ Below w.heap.size w (W.setCell ⟨g2, 0, none⟩ (.int .u64 (wd H 0 : Int))) := by
  have K := kset (S := fun b => b = g2) (Kept.refl (fun b => b = g2) W) (b := g2) (o := 0) rfl (.int .u64 (wd H 0 : Int))
  exact ⟨h.res.kept K (by omega), h.new.kept K (fun e => hq e.symm), (h.wdk.set _ rfl).done, h.bel.trans (K.below (fun b hb => by omega) h.bel.size)⟩
theorem fin {w W : World} {g2 m2 : Nat} {H : Nat → Bool} {a b : Value} (hr : Lay W (w.heap.size + 1) a b) (hw : Wds W g2 m2 H) (hb : Below w.heap.size w W) (hne : w.heap.size + 2 ≤ g2) (x y : Value) :
    ∃ W', W' = (W.setCell ⟨w.heap.size + 1, 0, none⟩ x).setCell ⟨w.heap.size + 1, 1, none⟩ y ∧ Lay W' (w.heap.size + 1) x y ∧ Wds W' g2 m2 H ∧ Below w.heap.size w W' := by
  have K : Kept (fun b => b = w.heap.size + 1) W ((W.setCell ⟨w.heap.size + 1, 0, none⟩ x).setCell ⟨w.heap.size + 1, 1, none⟩ y) := kset (S := fun b => b = w.heap.size + 1) (kset (S := fun b => b = w.heap.size + 1) (Kept.refl (fun b => b = w.heap.size + 1) W) rfl _) rfl _
  exact ⟨_, rfl, hr.put x y, hw.kept K (by omega), hb.trans (K.below (fun b hb => by omega) hb.size)⟩
/-- Words as cells. -/
def wcs (m : Nat) (H : Nat → Bool) : List Value := (List.range m).map fun i => .int .u64 (wd H i : Int)
theorem wcs_length (m : Nat) (H : Nat → Bool) : (wcs m H).length = m := by simp [wcs]
theorem wcs_get (m : Nat) (H : Nat → Bool) (i : Nat) (h : i < (wcs m H).length) : (wcs m H)[i] = .int .u64 (wd H i : Int) := by simp [wcs]
theorem sizeU : (Try.prog.info? 78).map (·.size) = some 1 := by kernel_rfl
theorem copyW {w : World} {n m n2 m2 g q g2 : Nat} {F H : Nat → Bool} {W : World} (h : WH w n m n2 m2 g q g2 F H W) (fr : Nat) (h1 : fr + m2 ≤ m) (h2 : ∀ i, i < m2 → wd F (fr + i) = wd H i) :
    (Builtin.copy_ #[74, 74] 3 #[.slice (some ⟨g2, 0, none⟩) m2 m2, .slice (some ⟨g, fr, none⟩) m2 m2]).run Try.prog W.drew = .ok (.int .i64 (m2 : Int)) (W.drew.setCells g2 0 (wcs m2 H)) := by
  have hd : WH w n m n2 m2 g q g2 F H W.drew := h.below (below_drewN (Below.refl _ _) 1)
  have := run_copy_cells (P := Try.prog) W.drew 74 74 3 78 g2 0 m2 m2 ⟨g, fr, none⟩ m2 m2 (wcs m2 H) Try.underlying74 sizeU (by rw [wcs_length]; simp)
    (fun j v hv => by
      obtain ⟨hj, rfl⟩ := List.getElem?_eq_some_iff.1 hv
      have hj' : j < m2 := by rwa [wcs_length] at hj
      rw [wcs_get, ← h2 j hj', Addr.add_lit]
      exact (hd.wds (fr + j) (by omega)).1)
    (fun j hj => by
      rw [wcs_length] at hj
      obtain ⟨⟨v, hv, _⟩, _⟩ := hd.wdk j hj
      rw [Nat.zero_add, hv]; rfl)
    (fun j hj => by
      rw [wcs_length] at hj
      rw [Nat.zero_add]; exact (hd.wdk j hj).2)
    (fun v hv => by
      obtain ⟨i, _, rfl⟩ := List.mem_map.1 hv
      rfl)
  rw [wcs_length] at this
  exact this
theorem kset_all {b : Nat} : ∀ (vs : List Value) (o : Nat) (w : World), Kept (fun i => i = b) w (w.setCells b o vs)
  | [], _, w => Kept.refl _ _
  | v :: r, o, w => (kset (S := fun i => i = b) (Kept.refl (fun i => i = b) w) rfl v).trans (kset_all r (o + 1) _)
/-- Behind the copy of the words. -/
theorem fin2 {w : World} {n m n2 m2 g q g2 : Nat} {F H : Nat → Bool} {W : World} (h0 : WH w n m n2 m2 g q g2 F H W) (hq : g2 ≠ q) (hs : w.heap.size + 2 ≤ g2) :
    Lay (W.drew.setCells g2 0 (wcs m2 H)) (w.heap.size + 1) (.int .i64 0) (.slice none 0 0) ∧ Lay (W.drew.setCells g2 0 (wcs m2 H)) q (.int .i64 (n2 : Int)) (.slice (some ⟨g2, 0, none⟩) m2 m2) ∧ Wds (W.drew.setCells g2 0 (wcs m2 H)) g2 m2 H ∧ Below w.heap.size w (W.drew.setCells g2 0 (wcs m2 H)) := by
  have h := h0.drew
  have K := kset_all (b := g2) (wcs m2 H) 0 W.drew
  refine ⟨h.res.kept K (by omega), h.new.kept K (fun e => hq e.symm), fun i hi => ⟨?_, ?_⟩, h.bel.trans (K.below (fun b hb => by omega) h.bel.size)⟩
  · have := World.cell?_setCells_in g2 (wcs m2 H) 0 W.drew (fun j hj => by
      rw [wcs_length] at hj
      obtain ⟨⟨v, hv, _⟩, _⟩ := h.wdk j hj
      rw [Nat.zero_add, hv]; rfl) i (by rw [wcs_length]; exact hi)
    rw [Nat.zero_add, wcs_get] at this
    exact this
  · rw [World.frozen?_setCells]; exact (h.wdk i hi).2
theorem nw_low {n : Nat} (h : n ≤ 6) : nw n = 1 := by
  have h6 : 2 ^ n ≤ 2 ^ 6 := Nat.pow_le_pow_right (by omega) h
  have := Nat.one_le_two_pow (n := n)
  unfold nw; omega
theorem nw_high {n : Nat} (h : 6 ≤ n) : nw n = 2 ^ n / 64 ∧ nw (n + 1) = 2 * nw n := by
  have hd : 2 ^ n = 64 * 2 ^ (n - 6) := by rw [show (64 : Nat) = 2 ^ 6 from rfl, ← Nat.pow_add]; congr 1; omega
  have hp : 2 ^ (n + 1) = 2 * 2 ^ n := by rw [Nat.pow_succ]; omega
  unfold nw; omega

set_option maxRecDepth 100000 in
set_option maxHeartbeats 2000000 in
theorem half (n g b : Nat) (F : Nat → Bool) (w : World) (hn : n ≤ 11) (hb : b ≤ 1) (hW : Wds w g (nw (n + 1)) (upto (2 ^ (n + 1)) F)) :
    Calls Try.prog 107 #[pv (n + 1) (nw (n + 1)) g, .int .i64 (b : Int)] w fun e w' => ∃ g2, e = .returned (pv n (nw n) g2) ∧ w.heap.size ≤ g2 ∧ Wds w' g2 (nw n) (upto (2 ^ n) fun p => F (b * 2 ^ n + p)) ∧ Below w.heap.size w w' := by
  have hnw := nw_le (n := n) (by omega)
  have hnw2 := nw_le (n := n + 1) (by omega)
  have hgl := hW.lt (by omega)
  have HW : Hid (Wds w g (nw (n + 1)) (upto (2 ^ (n + 1)) F)) := hW
  have HNP : Hid (∀ W, Calls Try.prog 54 #[.int .i64 (n : Int)] W fun e w' => ∃ g, e = .returned (pv n (nw n) g) ∧ W.heap.size ≤ g ∧ Wds w' g (nw n) (fun _ => false) ∧ Below W.heap.size W w') := fun W => newPacked n W (by omega)
  have HSI : Hid (∀ W, Calls Try.prog 95 #[pv (n + 1) (nw (n + 1)) g] W fun e w' => e = .returned (.int .i64 ((2 ^ (n + 1) : Nat) : Int)) ∧ Below W.heap.size W w') := fun W => size (n + 1) g W (by omega)
  have HS2 : Hid (∀ W g, Calls Try.prog 95 #[pv n (nw n) g] W fun e w' => e = .returned (.int .i64 ((2 ^ n : Nat) : Int)) ∧ Below W.heap.size W w') := fun W g => size n g W (by omega)
  have HIU : Hid (∀ W g, Calls Try.prog 57 #[pv n (nw n) g] W fun e w' => e = .returned (.int .u64 ((use (2 ^ n) : Nat) : Int)) ∧ Below W.heap.size W w') := fun W g => inUse n (nw n) g W (by omega) rfl
  have hp1 : 2 ^ (n + 1) = 2 * 2 ^ n := by rw [Nat.pow_succ]; omega
  have hpn := p12 (n := n) (by omega)
  by_cases h6 : n < 6
  · have HLO : Hid (wd (upto (2 ^ (n + 1)) F) 0 / 2 ^ (b * 2 ^ n) &&& use (2 ^ n) = wd (upto (2 ^ n) fun p => F (b * 2 ^ n + p)) 0) := wd_half_low F n b h6 hb
    have hP32 : 2 ^ n ≤ 32 := Nat.pow_le_pow_right (by omega) (by omega : n ≤ 5)
    have hm1 := nw_low (n := n) (by omega)
    have hm2 := nw_low (n := n + 1) (by omega)
    have hus : use (2 ^ n) < 18446744073709551616 := by
      unfold use; split
      · rename_i h; exact Nat.lt_of_le_of_lt (Nat.sub_le _ _) (Nat.lt_of_lt_of_le (Nat.pow_lt_pow_right (by omega) h) (by decide))
      · decide
    clear hW
    generalize nw (n + 1) = m2 at *
    generalize nw n = m1 at *
    subst hm1 hm2
    clear hnw hnw2
    generalize use (2 ^ n) = us at *
    generalize (upto (2 ^ n) fun p => F (b * 2 ^ n + p)) = H at *
    generalize upto (2 ^ (n + 1)) F = F at *
    generalize 2 ^ (n + 1) = P2 at *
    generalize 2 ^ n = P at *
    have e1 : ((n + 1 : Nat) : Int) - 1 = (n : Int) := by omega
    have hi64 : (P2 : Int) ≤ 64 := by omega
    generalize hN : n + 1 = N at *
    clear hN
    go_enter Try.func107, Try.ntmps107
    go_wp2_with fail
    refine (HNP.out _).mono ?_
    rintro e w1 ⟨g2, rfl, hg, hw1, hb1⟩
    have HX0 : Lay w1 w.heap.size (.int .i64 (N : Int)) (.slice (some ⟨g, 0, none⟩) 1 1) := (((Lay.made w _ _ _).alloc _).below hb1)
    have HR0 : Lay w1 (w.heap.size + 1) (.int .i64 0) (.slice none 0 0) := by
      have := (Lay.made (w.alloc (.cells #[.int .i64 (N : Int), .slice (some ⟨g, 0, none⟩) 1 1] 76)) (.int .i64 0) (.slice none 0 0) 76).below hb1
      simpa using this
    have hsz1 : w.heap.size + 2 ≤ g2 := by simpa using hg
    have hg2l := hw1.lt (by omega)
    have HBA := ((Below.refl w.heap.size w).alloc (Nat.le_refl _) (.cells #[.int .i64 (N : Int), .slice (some ⟨g, 0, none⟩) 1 1] 76)).alloc (by simp) (.cells #[.int .i64 0, .slice none 0 0] 76)
    have HB1 : Below w.heap.size w w1 := HBA.trans (hb1.mono (by simp; omega))
    have HS0 : Hid (WH w N 1 n 1 g w1.heap.size g2 F H (w1.alloc (.cells #[.int .i64 (n : Int), .slice (some ⟨g2, 0, none⟩) 1 1] 76))) :=
      ⟨HX0.alloc _, HR0.alloc _, Lay.made _ _ _ _, (HW.out.below HB1).kept (S := fun _ => False) ((Kept.refl _ _).alloc _) (fun h => h), (Wdk.start hw1 H).kept (S := fun _ => False) ((Kept.refl _ _).alloc _) (fun h => h), HB1.alloc HB1.size _⟩
    have hgw1 : w.heap.size ≤ w1.heap.size := HB1.size
    have hww : w.heap.size < w1.heap.size := by omega
    obtain ⟨y0, y1, _, _⟩ := HX0
    clear hb1 hw1 hg HR0 HBA HB1
    go_wp2_with fail
    refine (HSI.out _).mono ?_
    rintro e w2 ⟨rfl, hb2⟩
    have HS : Hid (WH w N 1 n 1 g w1.heap.size g2 F H w2) := HS0.out.below hb2
    clear hb2 y0 y1
    obtain ⟨x0, x1, _, _⟩ := HS.out.lay
    obtain ⟨q0, q1, _, _⟩ := HS.out.new
    have v0 := (HS.out.wds 0 (by omega)).1
    have hvl := wd_lt F 0
    have HWV : Hid (∀ W, WH w N 1 n 1 g w1.heap.size g2 F H W → W.cell? ⟨g, 0, none⟩ = some (.int .u64 (wd F 0 : Int))) := fun W h => (h.wds 0 (by omega)).1
    generalize wd F 0 = x at *
    have wP : IntKind.i64.wrap (P : Int) = (P : Int) := by rw [IntKind.wrap_i64] <;> omega
    have w0 : IntKind.i64.wrap (0 : Int) = 0 := by decide
    have HV0 : Hid (bits .and .u64 (x : Int) (us : Int) = (wd H 0 : Int)) ∨ b ≠ 0 := by
      by_cases h : b = 0
      · refine .inl ?_
        show _ = _
        rw [bits_and_u64_nat _ _ hvl hus, ← HLO.out, h, Nat.zero_mul, Nat.pow_zero, Nat.div_one]
      · exact .inr h
    have HV1 : Hid (bits .and .u64 ((x : Int) / (2 : Int) ^ P) (us : Int) = (wd H 0 : Int)) ∨ b ≠ 1 := by
      by_cases h : b = 1
      · refine .inl ?_
        show _ = _
        rw [pow_div, bits_and_u64_nat _ _ (Nat.lt_of_le_of_lt (Nat.div_le_self _ _) hvl) hus, ← HLO.out, h, Nat.one_mul]
      · exact .inr h
    rcases (by omega : b = 0 ∨ b = 1) with rfl | rfl
    · obtain HV0 : Hid (bits .and .u64 (x : Int) (us : Int) = (wd H 0 : Int)) := by
        rcases HV0 with h | h
        · exact h
        · omega
      clear HV1 HLO
      go_wp2_with fail
      go_region_held3 (fun w' => w'.cell? ⟨w1.heap.size, 0, none⟩ = some (.int .i64 (n : Int)) ∧ w'.cell? ⟨w1.heap.size, 1, none⟩ = some (.slice (some ⟨g2, 0, none⟩) 1 1) ∧ w'.cell? ⟨w.heap.size, 1, none⟩ = some (.slice (some ⟨g, 0, none⟩) 1 1) ∧ w'.cell? ⟨g, 0, none⟩ = some (.int .u64 (x : Int))) ((first | exact ⟨q0, q1, x1, v0⟩ | exact ⟨hS3.new.c0, hS3.new.c1, hS3.lay.c1, HWV.out _ hS3⟩ | exact ⟨sother hS3.new.c0 (by omega), sother hS3.new.c1 (by omega), sother hS3.lay.c1 (by omega), sother (HWV.out _ hS3) (by omega)⟩)) ((first | (go_at_call 95; refine (HS2.out _ g2).mono ?_; rintro e w3 ⟨rfl, hb3⟩; (first | have hS3 := hS3.below hb3 | have hS3 := HS.out.drew.below hb3); obtain ⟨⟨vv, vc, _⟩, vf⟩ := hS3.wdk 0 (by omega)) | (go_at_call 57; refine (HIU.out _ g2).mono ?_; rintro e w3 ⟨rfl, hb3⟩; (first | have hS3 := hS3.below hb3 | have hS3 := HS.out.drew.below hb3); obtain ⟨⟨vv, vc, _⟩, vf⟩ := hS3.wdk 0 (by omega))))
      rw [HV0.out]
      obtain ⟨f1, f2, f3, f4⟩ := fin1 hS3 (by omega) hsz1 (.inl trivial)
      have HH := fin f1 f3 f4 (by omega) (.int .i64 (n : Int)) (.slice (some ⟨g2, 0, none⟩) 1 1)
      obtain ⟨r0, r1, r2, r3⟩ := f1
      obtain ⟨q0, q1, _, _⟩ := f2
      clear f3 f4 hS3
      have HHd : Hid _ := HH
      clear HH
      generalize (w3.setCell ⟨g2, 0, none⟩ (.int .u64 (wd H 0 : Int))) = W4 at *
      go_wp2
      obtain ⟨W, hW, hz, hwz, hbz⟩ := HHd.out
      rw [← hW]
      obtain ⟨z0, z1, _, _⟩ := hz
      exact bodyPost_ret (v := pv n 1 g2) (by simp [results, Try.results107, go_sem, z0, z1]) rfl ⟨g2, rfl, by omega, hwz, hbz⟩
    · obtain HV1 : Hid (bits .and .u64 ((x : Int) / (2 : Int) ^ P) (us : Int) = (wd H 0 : Int)) := by
        rcases HV1 with h | h
        · exact h
        · omega
      clear HV0 HLO
      go_wp2_with fail
      go_region_held3 (fun w' => w'.cell? ⟨w1.heap.size, 0, none⟩ = some (.int .i64 (n : Int)) ∧ w'.cell? ⟨w1.heap.size, 1, none⟩ = some (.slice (some ⟨g2, 0, none⟩) 1 1) ∧ w'.cell? ⟨w.heap.size, 1, none⟩ = some (.slice (some ⟨g, 0, none⟩) 1 1) ∧ w'.cell? ⟨g, 0, none⟩ = some (.int .u64 (x : Int))) ((first | exact ⟨q0, q1, x1, v0⟩ | exact ⟨hS3.new.c0, hS3.new.c1, hS3.lay.c1, HWV.out _ hS3⟩ | exact ⟨sother hS3.new.c0 (by omega), sother hS3.new.c1 (by omega), sother hS3.lay.c1 (by omega), sother (HWV.out _ hS3) (by omega)⟩)) ((first | (go_at_call 95; refine (HS2.out _ g2).mono ?_; rintro e w3 ⟨rfl, hb3⟩; (first | have hS3 := hS3.below hb3 | have hS3 := HS.out.drew.below hb3); obtain ⟨⟨vv, vc, _⟩, vf⟩ := hS3.wdk 0 (by omega)) | (go_at_call 57; refine (HIU.out _ g2).mono ?_; rintro e w3 ⟨rfl, hb3⟩; (first | have hS3 := hS3.below hb3 | have hS3 := HS.out.drew.below hb3); obtain ⟨⟨vv, vc, _⟩, vf⟩ := hS3.wdk 0 (by omega))))
      rw [HV1.out]
      obtain ⟨f1, f2, f3, f4⟩ := fin1 hS3 (by omega) hsz1 (.inl trivial)
      have HH := fin f1 f3 f4 (by omega) (.int .i64 (n : Int)) (.slice (some ⟨g2, 0, none⟩) 1 1)
      obtain ⟨r0, r1, r2, r3⟩ := f1
      obtain ⟨q0, q1, _, _⟩ := f2
      clear f3 f4 hS3
      have HHd : Hid _ := HH
      clear HH
      generalize (w3.setCell ⟨g2, 0, none⟩ (.int .u64 (wd H 0 : Int))) = W4 at *
      go_wp2
      obtain ⟨W, hW, hz, hwz, hbz⟩ := HHd.out
      rw [← hW]
      obtain ⟨z0, z1, _, _⟩ := hz
      exact bodyPost_ret (v := pv n 1 g2) (by simp [results, Try.results107, go_sem, z0, z1]) rfl ⟨g2, rfl, by omega, hwz, hbz⟩
  · obtain ⟨hm1, hm2⟩ := nw_high (n := n) (by omega)
    have HHI : Hid (∀ i, i < nw n → wd (upto (2 ^ (n + 1)) F) (b * nw n + i) = wd (upto (2 ^ n) fun p => F (b * 2 ^ n + p)) i) := fun i hi => by
      rw [hm1] at hi ⊢
      exact wd_half_high F n b i (by omega) hb hi
    have h64 : 64 ≤ 2 ^ n := Nat.pow_le_pow_right (n := 2) (by omega) (by omega : 6 ≤ n)
    clear hW hm1
    generalize nw (n + 1) = M at *
    generalize nw n = m at *
    generalize (upto (2 ^ n) fun p => F (b * 2 ^ n + p)) = H at *
    generalize upto (2 ^ (n + 1)) F = F at *
    generalize 2 ^ (n + 1) = P2 at *
    generalize 2 ^ n = P at *
    have HM : Hid (M = 2 * m) := hm2
    clear hm2
    have e1 : ((n + 1 : Nat) : Int) - 1 = (n : Int) := by omega
    have hi64 : ¬ (P2 : Int) ≤ 64 := by omega
    generalize hN : n + 1 = N at *
    clear hN
    go_enter Try.func107, Try.ntmps107
    go_wp2_with fail
    refine (HNP.out _).mono ?_
    rintro e w1 ⟨g2, rfl, hg, hw1, hb1⟩
    have HX0 : Lay w1 w.heap.size (.int .i64 (N : Int)) (.slice (some ⟨g, 0, none⟩) M M) := (((Lay.made w _ _ _).alloc _).below hb1)
    have HR0 : Lay w1 (w.heap.size + 1) (.int .i64 0) (.slice none 0 0) := by
      have := (Lay.made (w.alloc (.cells #[.int .i64 (N : Int), .slice (some ⟨g, 0, none⟩) M M] 76)) (.int .i64 0) (.slice none 0 0) 76).below hb1
      simpa using this
    have hsz1 : w.heap.size + 2 ≤ g2 := by simpa using hg
    have hg2l := hw1.lt (by omega)
    have HBA := ((Below.refl w.heap.size w).alloc (Nat.le_refl _) (.cells #[.int .i64 (N : Int), .slice (some ⟨g, 0, none⟩) M M] 76)).alloc (by simp) (.cells #[.int .i64 0, .slice none 0 0] 76)
    have HB1 : Below w.heap.size w w1 := HBA.trans (hb1.mono (by simp; omega))
    have HS0 : Hid (WH w N M n m g w1.heap.size g2 F H (w1.alloc (.cells #[.int .i64 (n : Int), .slice (some ⟨g2, 0, none⟩) m m] 76))) :=
      ⟨HX0.alloc _, HR0.alloc _, Lay.made _ _ _ _, (HW.out.below HB1).kept (S := fun _ => False) ((Kept.refl _ _).alloc _) (fun h => h), (Wdk.start hw1 H).kept (S := fun _ => False) ((Kept.refl _ _).alloc _) (fun h => h), HB1.alloc HB1.size _⟩
    have hgw1 : w.heap.size ≤ w1.heap.size := HB1.size
    have hww : w.heap.size < w1.heap.size := by omega
    obtain ⟨y0, y1, _, _⟩ := HX0
    clear hb1 hw1 hg HR0 HBA HB1
    go_wp2_with fail
    refine (HSI.out _).mono ?_
    rintro e w2 ⟨rfl, hb2⟩
    have HS : Hid (WH w N M n m g w1.heap.size g2 F H w2) := HS0.out.below hb2
    clear hb2 y0 y1
    obtain ⟨x0, x1, _, _⟩ := HS.out.lay
    obtain ⟨q0, q1, _, _⟩ := HS.out.new
    have HPP : Hid (P2 = 2 * P) := hp1
    clear hp1
    have HCP : Hid (∀ W, WH w N M n m g w1.heap.size g2 F H W → ∀ fr, fr + m ≤ M → (∀ i, i < m → wd F (fr + i) = wd H i) → (Builtin.copy_ #[74, 74] 3 #[.slice (some ⟨g2, 0, none⟩) m m, .slice (some ⟨g, fr, none⟩) m m]).run Try.prog W.drew = .ok (.int .i64 (m : Int)) (W.drew.setCells g2 0 (wcs m H))) := fun W h fr h1 h2 => copyW h fr h1 h2
    rcases (by omega : b = 0 ∨ b = 1) with rfl | rfl
    · have hmM : (m : Int) ≤ (M : Int) := by have := HM.out; omega
      go_wp2_with fail
      go_quiet (fail)
      go_wp2_with fail
      have HS5 : Hid (WH w N M n m g w1.heap.size g2 F H (w2.drewN nq)) := HS.out.drewN nq
      generalize w2.drewN nq = w5 at *
      clear x0 x1 q0 q1
      obtain ⟨x0, x1, _, _⟩ := HS5.out.lay
      obtain ⟨q0, q1, _, _⟩ := HS5.out.new
      have hcp := HCP.out w5 HS5.out 0 (by omega) (by intro i hi; have := HHI.out i hi; rw [Nat.zero_mul] at this; exact this)
      go_region
      obtain ⟨f1, f2, f3, f4⟩ := fin2 HS5.out (by omega) hsz1
      have HH := fin f1 f3 f4 (by omega) (.int .i64 (n : Int)) (.slice (some ⟨g2, 0, none⟩) m m)
      obtain ⟨r0, r1, r2, r3⟩ := f1
      obtain ⟨q0, q1, _, _⟩ := f2
      clear f3 f4 hcp
      have HHd : Hid _ := HH
      clear HH
      generalize (w5.drew.setCells g2 0 (wcs m H)) = W4 at *
      go_wp2
      obtain ⟨W, hW, hz, hwz, hbz⟩ := HHd.out
      rw [← hW]
      obtain ⟨z0, z1, _, _⟩ := hz
      exact bodyPost_ret (v := pv n m g2) (by simp [results, Try.results107, go_sem, z0, z1]) rfl ⟨g2, rfl, by omega, hwz, hbz⟩
    · have hmM : 2 * (m : Int) ≤ (M : Int) := by have := HM.out; omega
      have hmm : ¬ 2 * (m : Int) < (m : Int) := by omega
      have hmt : 2 * m - m = m := by omega
      go_wp2_with fail
      go_quiet (fail)
      go_wp2_with fail
      have HS5 : Hid (WH w N M n m g w1.heap.size g2 F H (w2.drewN nq)) := HS.out.drewN nq
      generalize w2.drewN nq = w5 at *
      clear x0 x1 q0 q1
      obtain ⟨x0, x1, _, _⟩ := HS5.out.lay
      obtain ⟨q0, q1, _, _⟩ := HS5.out.new
      have hcp := HCP.out w5 HS5.out m (by have := HM.out; omega) (by intro i hi; have := HHI.out i hi; rw [Nat.one_mul] at this; exact this)
      go_region
      obtain ⟨f1, f2, f3, f4⟩ := fin2 HS5.out (by omega) hsz1
      have HH := fin f1 f3 f4 (by omega) (.int .i64 (n : Int)) (.slice (some ⟨g2, 0, none⟩) m m)
      obtain ⟨r0, r1, r2, r3⟩ := f1
      obtain ⟨q0, q1, _, _⟩ := f2
      clear f3 f4 hcp
      have HHd : Hid _ := HH
      clear HH
      generalize (w5.drew.setCells g2 0 (wcs m H)) = W4 at *
      go_wp2
      obtain ⟨W, hW, hz, hwz, hbz⟩ := HHd.out
      rw [← hW]
      obtain ⟨z0, z1, _, _⟩ := hz
      exact bodyPost_ret (v := pv n m g2) (by simp [results, Try.results107, go_sem, z0, z1]) rfl ⟨g2, rfl, by omega, hwz, hbz⟩

end Go.Proofs.Ytnpfegfjejfaaaa.Tc10
