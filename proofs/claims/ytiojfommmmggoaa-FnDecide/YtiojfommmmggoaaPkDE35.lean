/- Small texts of mine, one behind the other. -/
import Derived.Test.YtiojfommmmggoaaRows
import Derived.WalkKit
import Derived.Laws.IdiomStrings
import Derived.Deep.RegionWith
import Derived.Laws.MakeOwn
import Derived.Test.YtiojfommmmggoaaPkDE34
import Derived.Test.YtiojfommmmggoaaPkDE22
import Derived.Test.YtiojfommmmggoaaPkDE29
import Derived.Test.YtiojfommmmggoaaPkDE0
import Derived.Test.YtiojfommmmggoaaPkDE10
import Derived.Test.YtiojfommmmggoaaPkDE12
import Derived.Test.YtiojfommmmggoaaPkDE3
/- The verdict of a part of a table: plain facts. -/
namespace Go.Proofs.Ytiojfommmmggoaa.Dv0
open Go.RowKit
open Ta1 Ta3 De0
set_option linter.unusedVariables false

def dcAt (row : List Bool) (F : Nat → Bool) (k p : Nat) : Bool := dc (row.drop k) fun q => F (p * 2 ^ (row.length - k) + q)
theorem dcAt_0 (row : List Bool) (F : Nat → Bool) : dcAt row F 0 0 = dc row F := by
  unfold dcAt
  rw [List.drop_zero]
  refine dc_ext row fun q _ => ?_
  rw [Nat.zero_mul, Nat.zero_add]
theorem dcAt_end (row : List Bool) (F : Nat → Bool) (p : Nat) : dcAt row F row.length p = F p := by
  unfold dcAt
  rw [List.drop_length, Nat.sub_self]
  show F (p * 2 ^ 0 + 0) = F p
  rw [Nat.pow_zero, Nat.mul_one, Nat.add_zero]
theorem dcAt_half {row : List Bool} {k : Nat} (h : k < row.length) (F : Nat → Bool) (p b : Nat) :
    dc (row.drop (k + 1)) (hb (row.drop (k + 1)).length b fun q => F (p * 2 ^ (row.length - k) + q)) = dcAt row F (k + 1) (2 * p + b) := by
  unfold dcAt
  refine dc_ext _ fun q _ => ?_
  show F (p * 2 ^ (row.length - k) + (b * 2 ^ (row.drop (k + 1)).length + q)) = F ((2 * p + b) * 2 ^ (row.length - (k + 1)) + q)
  have e : row.length - k = (row.length - (k + 1)) + 1 := by omega
  rw [List.length_drop, e, Nat.pow_succ, Nat.add_mul, Nat.mul_comm 2 p, Nat.mul_assoc p 2, Nat.mul_comm 2, Nat.add_assoc]
theorem dcAt_step {row : List Bool} {k : Nat} (h : k < row.length) (F : Nat → Bool) (p : Nat) :
    dcAt row F k p = if row[k] = true then dcAt row F (k + 1) (2 * p) && dcAt row F (k + 1) (2 * p + 1) else dcAt row F (k + 1) (2 * p) || dcAt row F (k + 1) (2 * p + 1) := by
  have h0 : _ = dcAt row F (k + 1) (2 * p) := dcAt_half h F p 0
  have h1 := dcAt_half h F p 1
  rw [← h0, ← h1]
  conv => lhs; unfold dcAt
  rw [List.drop_eq_getElem_cons h]
  rfl
theorem dcAt_ext (row : List Bool) {F G : Nat → Bool} (h : ∀ p, p < 2 ^ row.length → F p = G p) {k p : Nat} (hk : k ≤ row.length) (hp : p < 2 ^ k) : dcAt row F k p = dcAt row G k p := by
  unfold dcAt
  refine dc_ext _ fun q hq => h _ ?_
  rw [List.length_drop] at hq
  have e : 2 ^ row.length = 2 ^ k * 2 ^ (row.length - k) := by rw [← Nat.pow_add]; congr 1; omega
  rw [e]
  have h1 : p * 2 ^ (row.length - k) ≤ (2 ^ k - 1) * 2 ^ (row.length - k) := Nat.mul_le_mul_right _ (by omega)
  have h2 : (2 ^ k - 1) * 2 ^ (row.length - k) = 2 ^ k * 2 ^ (row.length - k) - 2 ^ (row.length - k) := by rw [Nat.sub_mul, Nat.one_mul]
  have h3 : 2 ^ (row.length - k) ≤ 2 ^ k * 2 ^ (row.length - k) := Nat.le_mul_of_pos_left _ (Nat.two_pow_pos k)
  omega
theorem or_bit (p b : Nat) (hb : b ≤ 1) : 2 * p ||| b = 2 * p + b := by
  have := Nat.two_pow_add_eq_or_of_lt (b := b) (i := 1) (by omega) p
  rw [Nat.pow_one] at this
  exact this.symm

def fst (x y : Bool) (v : Int) : Int := if (x.toNat : Int) = v then 0 else if (y.toNat : Int) = v then 1 else -1

end Go.Proofs.Ytiojfommmmggoaa.Dv0

/- bits.OnesCount64: how many bits of a word are set. -/
namespace Go.Proofs.Ytiojfommmmggoaa.Tc1
open Go.RowKit
open Ta0 Ta1
set_option linter.unusedVariables false

end Go.Proofs.Ytiojfommmmggoaa.Tc1

/- Packed tables: the table of one; how many bits are set; the bits in use; whether it needs a bit. -/
namespace Go.Proofs.Ytiojfommmmggoaa.Tc6
open Go.RowKit
open Ta0 Ta1 Tc2 Tc4 Tc5
open Nd0 (Kept set_other set_same lt_of_cell)
open Ss0 (bs bs_size)
open Ss1 (tl tl_length tl_get tl_take tl_bs)
set_option linter.unusedVariables false

theorem infoB : (Try.prog.info? 5).map (fun i => (i.zero, i.size, i.bytes)) = some (some (.int .u8 0), 1, 1) := by kernel_rfl
def noughtsB (n : Nat) : Array Value := madeCells #[.int .u8 0] (n * 1)
theorem noughtsB_get (n j : Nat) (h : j < n) : (noughtsB n)[j]? = some (.int .u8 0) := by
  simp only [noughtsB, madeCells, Array.getElem?_map, Array.getElem?_range]
  rw [if_pos (by omega)]
  simp only [Option.map_some]
  have e : j % 1 = 0 := Nat.mod_one j
  exact congrArg (fun m => some ((#[.int .u8 0] : Array Value)[m]!)) e
theorem makeBytes (n : Nat) (hn : n ≤ 1048576) (w : World) :
    (Instr.makeSlice 22 (.int .i64 (n : Int)) (.int .i64 (n : Int))).run Try.prog w = .ok (.slice (some ⟨w.heap.size, 0, none⟩) n n) (w.alloc (.cells (noughtsB n) 5)) := by
  obtain ⟨i, hi, hzz⟩ := Option.map_eq_some_iff.1 infoB
  simp only [Prod.mk.injEq] at hzz
  obtain ⟨hz, hs, hb⟩ := hzz
  have h := run_make (P := Try.prog) w 22 5 i _ Try.underlying22 hi hz .i64 .i64 n n (by omega) (Int.le_refl _) (by rw [hb]; omega) (by omega)
  rw [hs] at h
  simpa [noughtsB, Value.cells] using h
def Sgs (W : World) (c P k : Nat) (G : Nat → Bool) : Prop := ∀ j, j < P → (∃ v : Int, W.cell? ⟨c, j, none⟩ = some (.int .u8 v) ∧ (j < k → v = ((sgn (G j)).toNat : Int))) ∧ W.frozen? ⟨c, j, none⟩ = false
theorem Sgs.kept {W W' : World} {c P k : Nat} {G : Nat → Bool} (h : Sgs W c P k G) {S : Nat → Prop} (q : Kept S W W') (hs : ¬ S c) : Sgs W' c P k G := fun j hj => by
  obtain ⟨⟨v, h1, h2⟩, h3⟩ := h j hj
  have hg : c < W.heap.size := World.block_lt_of_cell? _ _ h1
  exact ⟨⟨v, by rw [q.cell (p := ⟨c, j, none⟩) hg hs]; exact h1, h2⟩, by rw [q.frozen (p := ⟨c, j, none⟩) hg hs]; exact h3⟩
theorem Sgs.below {W W' : World} {c P k : Nat} {G : Nat → Bool} (h : Sgs W c P k G) (q : Below W.heap.size W W') : Sgs W' c P k G := h.kept (S := fun _ => False) (Kept.ofBelow q) (fun h => h)
theorem Sgs.set {W : World} {c P k : Nat} {G : Nat → Bool} (h : Sgs W c P k G) (v : Int) (hv : v = ((sgn (G k)).toNat : Int)) : Sgs (W.setCell ⟨c, k, none⟩ (.int .u8 v)) c P (k + 1) G := fun j hj => by
  obtain ⟨⟨u, h1, h2⟩, h3⟩ := h j hj
  by_cases e : j = k
  · subst e
    exact ⟨⟨v, set_same h1, fun _ => hv⟩, by rw [World.frozen?_setCell]; exact h3⟩
  · exact ⟨⟨u, by rw [set_other (by simp <;> omega)]; exact h1, fun x => h2 (by omega)⟩, by rw [World.frozen?_setCell]; exact h3⟩
theorem Sgs.made (W : World) (P : Nat) (G : Nat → Bool) : Sgs (W.alloc (.cells (noughtsB P) 5)) W.heap.size P 0 G := fun j hj =>
  ⟨⟨0, by rw [World.cell?_alloc_new]; exact noughtsB_get _ _ hj, fun x => by omega⟩, by simp⟩
theorem Sgs.text {W : World} {c n : Nat} {G : Nat → Bool} (h : Sgs W c (2 ^ n) (2 ^ n) G) : (convert 22 9 (.slice (some ⟨c, 0, none⟩) (2 ^ n) (2 ^ n))).run Try.prog W = .ok (.string (bs (tab n G))) W := by
  have := run_convert_bytes_back (P := Try.prog) W 22 9 5 ⟨c, 0, none⟩ (2 ^ n) (tab n G) Try.underlying22 Try.underlying5 Try.underlying9 (fun j hj => by
    obtain ⟨⟨v, h1, h2⟩, _⟩ := h j (by rw [tab_length] at hj; exact hj)
    rw [tab_get, ← h2 (by rw [tab_length] at hj; exact hj)]
    rw [Addr.add_lit, Nat.zero_add]; exact h1)
  rw [tab_length] at this
  exact this

set_option maxRecDepth 100000 in
set_option maxHeartbeats 2000000 in
theorem table (n g : Nat) (G : Nat → Bool) (w : World) (hn : n ≤ 12) (hW : Wds w g (nw n) G) :
    Calls Try.prog 37 #[pv n (nw n) g] w fun e w' => e = .returned (tv (n : Int) (bs (tab n G))) ∧ Below w.heap.size w w' := by
  obtain ⟨hp, hl⟩ := p12 hn
  have hnw := nw_le hn
  have hgl := hW.lt (by omega)
  have HW : Hid (Wds w g (nw n) G) := hW
  have HSI : Hid (∀ W, Calls Try.prog 55 #[pv n (nw n) g] W fun e w' => e = .returned (.int .i64 ((2 ^ n : Nat) : Int)) ∧ Below W.heap.size W w') := fun W => size n g W hn
  have HAT : Hid (∀ (W : World) (k : Nat), k < 2 ^ n → Wds W g (nw n) G → Calls Try.prog 49 #[pv n (nw n) g, .int .i64 (k : Int)] W fun e w' => e = .returned (.int .i64 ((G k).toNat : Int)) ∧ Below W.heap.size W w') := fun W k h1 h2 => at_ n g k G W hn h1 h2
  have HTX : Hid (∀ W c, Sgs W c (2 ^ n) (2 ^ n) G → (convert 22 9 (.slice (some ⟨c, 0, none⟩) (2 ^ n) (2 ^ n))).run Try.prog W = .ok (.string (bs (tab n G))) W) := fun W c h => h.text
  have hmk := makeBytes (2 ^ n) (by omega)
  clear hW
  generalize bs (tab n G) = S at *
  generalize nw n = m at *
  generalize 2 ^ n = P at *
  go_enter Try.func37, Try.ntmps37
  go_wp2_with fail
  refine (HSI.out _).mono ?_
  rintro e w1 ⟨rfl, hb1⟩
  have HX0 : Hid (Lay w1 w.heap.size (.int .i64 (n : Int)) (.slice (some ⟨g, 0, none⟩) m m)) := (((Lay.made w _ _ _).alloc _).below hb1)
  have HR0 : Hid (Lay w1 (w.heap.size + 1) (.int .i64 0) (.string ByteArray.empty)) := by
    have := (Lay.made (w.alloc (.cells #[.int .i64 (n : Int), .slice (some ⟨g, 0, none⟩) m m] 64)) (.int .i64 0) (.string ByteArray.empty) 30).below hb1
    show Lay _ _ _ _
    simpa using this
  have HB1 : Hid (Below w.heap.size w w1) := (((Below.refl _ _).alloc (Nat.le_refl _) _).alloc (by simp) _).trans (hb1.mono (by simp; omega))
  have hs1 : w.heap.size + 2 ≤ w1.heap.size := by simpa using hb1.size
  clear hb1
  go_wp2_with fail
  clear hmk
  have HX1 : Hid (Lay (w1.alloc (.cells (noughtsB P) 5)) w.heap.size (.int .i64 (n : Int)) (.slice (some ⟨g, 0, none⟩) m m)) := HX0.out.alloc _
  go_loopw [10] (fun i wr => ∃ k : Nat, k ≤ P ∧ i = .int .i64 k ∧ Lay wr w.heap.size (.int .i64 (n : Int)) (.slice (some ⟨g, 0, none⟩) m m) ∧ Lay wr (w.heap.size + 1) (.int .i64 0) (.string ByteArray.empty) ∧ Sgs wr w1.heap.size P k G ∧ Below w.heap.size w wr) (fun i _ => P - (intOf i).toNat)
  case atStart => exact ⟨0, Nat.zero_le _, rfl, HX0.out.alloc _, HR0.out.alloc _, Sgs.made _ _ _, HB1.out.alloc HB1.out.size _⟩
  case round =>
    obtain ⟨k, hk, rfl, hx, hr, hq, hb⟩ := hrel
    have HX : Hid (Lay wr w.heap.size (.int .i64 (n : Int)) (.slice (some ⟨g, 0, none⟩) m m)) := hx
    have HR : Hid (Lay wr (w.heap.size + 1) (.int .i64 0) (.string ByteArray.empty)) := hr
    have HQ : Hid (Sgs wr w1.heap.size P k G) := hq
    have HB : Hid (Below w.heap.size w wr) := hb
    clear hb hq
    obtain ⟨x0, x1, _, _⟩ := hx
    by_cases hlt : k < P
    · clear hr
      have hkz : (k : Int) < (P : Int) := by omega
      cases hG : G k
      all_goals
        have HG : Hid (G k = _) := hG
        go_wp2_with fail
        refine (HAT.out _ k hlt (HW.out.below HB.out)).mono ?_
        rw [hG]
        clear hG
        rintro e w3 ⟨rfl, hb3⟩
        have HQ3 : Hid (Sgs w3 w1.heap.size P k G) := HQ.out.below hb3
        have HX3 : Hid (Lay w3 w.heap.size (.int .i64 (n : Int)) (.slice (some ⟨g, 0, none⟩) m m)) := HX.out.below hb3
        have HR3 : Hid (Lay w3 (w.heap.size + 1) (.int .i64 0) (.string ByteArray.empty)) := HR.out.below hb3
        have HB3 : Hid (Below w.heap.size w w3) := HB.out.trans (hb3.mono HB.out.size)
        clear hb3
        obtain ⟨⟨v, v0, _⟩, v1⟩ := HQ3.out k hlt
        go_wp2
        go_roundw
        case rel => exact ⟨k + 1, by omega, by go_num, HX3.out.kept (S := fun b => b = w1.heap.size) (kset (S := fun b => b = w1.heap.size) (Kept.refl (fun b => b = w1.heap.size) w3) rfl _) (by omega), HR3.out.kept (S := fun b => b = w1.heap.size) (kset (S := fun b => b = w1.heap.size) (Kept.refl (fun b => b = w1.heap.size) w3) rfl _) (by omega), HQ3.out.set _ (by rw [HG.out]; rfl), HB3.out.trans ((kset (S := fun b => b = w1.heap.size) (Kept.refl (fun b => b = w1.heap.size) w3) rfl _).below (fun b hb => by omega) HB3.out.size)⟩
        case measure => simp [intOf]; omega
    · obtain ⟨r0, r1, r2, r3⟩ := hr
      have hkP : k = P := by omega
      have hcv := HTX.out wr w1.heap.size (by have := HQ.out; rwa [hkP] at this)
      clear hkP
      have HZ := HR.out.put (.int .i64 (n : Int)) (.string S)
      have HK : Kept (fun b => b = w.heap.size + 1) wr ((wr.setCell ⟨w.heap.size + 1, 0, none⟩ (.int .i64 (n : Int))).setCell ⟨w.heap.size + 1, 1, none⟩ (.string S)) := kset (S := fun b => b = w.heap.size + 1) (kset (S := fun b => b = w.heap.size + 1) (Kept.refl (fun b => b = w.heap.size + 1) wr) rfl _) rfl _
      have HBZ := HB.out.trans (HK.below (B := w.heap.size) (fun b hb => by omega) HB.out.size)
      have HH : Hid (∃ W, W = (wr.setCell ⟨w.heap.size + 1, 0, none⟩ (.int .i64 (n : Int))).setCell ⟨w.heap.size + 1, 1, none⟩ (.string S) ∧ Lay W (w.heap.size + 1) (.int .i64 (n : Int)) (.string S) ∧ Below w.heap.size w W) := ⟨_, rfl, HZ, HBZ⟩
      clear HZ HK HBZ
      go_wp2
      obtain ⟨W, hW, hz, hbz⟩ := HH.out
      rw [← hW]
      obtain ⟨z0, z1, _, _⟩ := hz
      exact bodyPost_ret (v := tv (n : Int) S) (by simp [results, Try.results37, go_sem, z0, z1]) rfl ⟨rfl, hbz⟩

end Go.Proofs.Ytiojfommmmggoaa.Tc6

/- Packed tables: how many bits are set; the bits in use; whether it needs a bit. -/
namespace Go.Proofs.Ytiojfommmmggoaa.Tc7
open Go.RowKit
open Ta0 Ta1 Tc2 Tc4 Tc5
open Nd0 (Kept set_other set_same lt_of_cell)

set_option linter.unusedVariables false

theorem ret_uint {a b : Int} (h : a = b) : Ending.returned (.int .u64 a) = .returned (.int .u64 b) := by rw [h]
theorem use_wrap (P : Nat) : IntKind.u64.wrap (IntKind.u64.wrap ((2 : Int) ^ (min P 64)) - 1) = ((use P : Nat) : Int) := by
  unfold use
  by_cases h : P < 64
  · have h1 : 2 ^ P < 18446744073709551616 := Nat.lt_of_lt_of_le (Nat.pow_lt_pow_right (by omega) h) (by decide)
    have h2 := Nat.one_le_two_pow (n := P)
    rw [if_pos h, Nat.min_eq_left (by omega), pcast, wrapu h1, show ((2 ^ P : Nat) : Int) - 1 = ((2 ^ P - 1 : Nat) : Int) by omega, wrapu (by omega)]
  · rw [if_neg h, Nat.min_eq_right (by omega)]
    decide

set_option maxHeartbeats 1000000 in
theorem inUse (n m g : Nat) (w : World) (hn : n ≤ 12) (hm : m = nw n) :
    Calls Try.prog 57 #[pv n m g] w fun e w' => e = .returned (.int .u64 ((use (2 ^ n) : Nat) : Int)) ∧ Below w.heap.size w w' := by
  subst hm
  obtain ⟨hp, hl⟩ := p12 hn
  have HSI : Hid (∀ W, Calls Try.prog 55 #[pv n (nw n) g] W fun e w' => e = .returned (.int .i64 ((2 ^ n : Nat) : Int)) ∧ Below W.heap.size W w') := fun W => size n g W hn
  have HAL : Hid (Below w.heap.size w (w.alloc (.cells #[.int .i64 (n : Int), .slice (some ⟨g, 0, none⟩) (nw n) (nw n)] 64))) := (Below.refl _ _).alloc (Nat.le_refl _) _
  generalize nw n = m at *
  generalize 2 ^ n = P at *
  go_enter Try.func57, Try.ntmps57
  go_wp2_with (go_at_call 55; refine (HSI.out _).mono ?_; rintro e w1 ⟨rfl, hb⟩; have HB : Hid (Below w.heap.size w w1) := HAL.out.trans (hb.mono HAL.out.size); clear hb)
  go_ret
  exact ⟨ret_uint (use_wrap P), HB.out⟩

end Go.Proofs.Ytiojfommmmggoaa.Tc7

/- Walks of the exact laws' helpers on slices of nodes. -/
namespace Go.Proofs.Ytiojfommmmggoaa.Nd2
open Go.RowKit
open Nd0 Nd1
set_option linter.unusedVariables false

end Go.Proofs.Ytiojfommmmggoaa.Nd2

/- Lists of flags at the exact laws' helpers; the helpers' marks from greater numbers on; copies of lists of whole numbers. -/
namespace Go.Proofs.Ytiojfommmmggoaa.Nd6
open Go.RowKit
open Nd0 Nd1 Nd2 Nd3 Ap1
set_option linter.unusedVariables false

def Bools (w : World) (a : Option Addr) (l : List Bool) : Prop :=
  l.length ≤ maxLen ∧ (l.length = 0 ∨ ∃ b o, a = some ⟨b, o, none⟩ ∧ ∀ i (h : i < l.length), w.cell? ⟨b, o + i, none⟩ = some (.bool l[i]))
theorem Bools.below {w w' : World} {a : Option Addr} {l : List Bool} (h : Bools w a l) (k : Below w.heap.size w w') : Bools w' a l := by
  refine ⟨h.1, ?_⟩
  rcases h.2 with h0 | ⟨b, o, rfl, hc⟩
  · exact .inl h0
  · exact .inr ⟨b, o, rfl, fun i hi => by rw [k.cell (lt_of_cell (hc i hi))]; exact hc i hi⟩
def BoolsIn (w : World) (B U : Nat) (a : Option Addr) (l : List Bool) : Prop :=
  l.length ≤ maxLen ∧ (l.length = 0 ∨ ∃ b o, a = some ⟨b, o, none⟩ ∧ B ≤ b ∧ b < U ∧ ∀ i (h : i < l.length), w.cell? ⟨b, o + i, none⟩ = some (.bool l[i]) ∧ w.frozen? ⟨b, o + i, none⟩ = false)
theorem WBools.within {w : World} {B : Nat} {a : Option Addr} {l : List Bool} (h : WBools w B a l) : BoolsIn w B w.heap.size a l := by
  refine ⟨h.1, ?_⟩
  by_cases e : l.length = 0
  · exact .inl e
  · rcases h.2 with h0 | ⟨b, o, ha, hB, hc⟩
    · exact .inl h0
    · exact .inr ⟨b, o, ha, hB, lt_of_cell (p := ⟨b, o + 0, none⟩) (hc 0 (by omega)).1, hc⟩
theorem BoolsIn.wr {w : World} {B U : Nat} {a : Option Addr} {l : List Bool} (h : BoolsIn w B U a l) : WBools w B a l := by
  refine ⟨h.1, ?_⟩
  rcases h.2 with h0 | ⟨b, o, ha, hB, _, hc⟩
  · exact .inl h0
  · exact .inr ⟨b, o, ha, hB, hc⟩
theorem WBools.plain {w : World} {B : Nat} {a : Option Addr} {l : List Bool} (h : WBools w B a l) : Bools w a l := by
  refine ⟨h.1, ?_⟩
  rcases h.2 with h0 | ⟨b, o, ha, _, hc⟩
  · exact .inl h0
  · exact .inr ⟨b, o, ha, fun i hi => (hc i hi).1⟩
theorem BoolsIn.plain {w : World} {B U : Nat} {a : Option Addr} {l : List Bool} (h : BoolsIn w B U a l) : Bools w a l := WBools.plain h.wr
theorem BoolsIn.kept {w w' : World} {B U : Nat} {a : Option Addr} {l : List Bool} (h : BoolsIn w B U a l) {S : Nat → Prop} (k : Kept S w w') (hs : ∀ b, B ≤ b → b < U → ¬ S b) : BoolsIn w' B U a l := by
  refine ⟨h.1, ?_⟩
  rcases h.2 with h0 | ⟨b, o, rfl, hB, hU, hc⟩
  · exact .inl h0
  · exact .inr ⟨b, o, rfl, hB, hU, fun i hi => ⟨by rw [k.cell (lt_of_cell (hc i hi).1) (hs b hB hU)]; exact (hc i hi).1, by rw [k.frozen (p := ⟨b, o + i, none⟩) (lt_of_cell (hc i hi).1) (hs b hB hU)]; exact (hc i hi).2⟩⟩
end Go.Proofs.Ytiojfommmmggoaa.Nd6
