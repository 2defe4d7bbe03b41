/- Small texts of mine, one behind the other. -/
import Derived.Test.YtldeakifeifgdaaDoorRows
import Derived.Maps.OwnSet
import Derived.WalkKit
import Derived.Laws.IdiomStrings
import Derived.Laws.IdiomCopy
import Derived.Test.YtldeakifeifgdaaDoorPkQa
import Derived.Test.YtldeakifeifgdaaDoorPkQc
import Derived.Test.YtldeakifeifgdaaDoorPkQh
import Derived.Test.YtldeakifeifgdaaDoorPkQj
import Derived.Test.YtldeakifeifgdaaDoorPkQf
/- The program's map from keys to verdicts. -/
namespace Go.Proofs.YtldeakifeifgdaaDoor.Ms0
open Go.RowKit Go.Maps Go.WideMaps Go.ChangeMaps
open Nd0 (Kept)
set_option linter.unusedVariables false

theorem law : Keyed Tryd.prog 9 := string_keyed Tryd.underlying9
theorem zeroInt (w : World) : (zeroValue 3).run Tryd.prog w = .ok (.int .i64 0) w := by kernel_rfl
theorem wf_bit {x : Int} (h0 : -1 ≤ x) (h1 : x ≤ 1) : (Lit.int .i64 x).wf = true := by
  have e1 : IntKind.i64.min = -9223372036854775808 := by decide
  have e2 : IntKind.i64.max = 9223372036854775807 := by decide
  simp [Lit.wf, e1, e2]; omega
/-- The key that a text is. -/
noncomputable def keyS (x : ByteArray) : Lit := (keyOf Tryd.prog 9 (.string x)).getD .nil
theorem key_eq {x : ByteArray} (h : x.size ≤ maxLen) : keyOf Tryd.prog 9 (.string x) = some (keyS x) := by
  unfold keyS
  rw [keyOf_string_mk Tryd.underlying9 h]
  rfl
theorem key_ne {x y : ByteArray} (hx : x.size ≤ maxLen) (hy : y.size ≤ maxLen) (h : x ≠ y) : keyS x ≠ keyS y := fun e => h (by
  have := law.inj (key_eq hx) (by rw [key_eq hy, e])
  cases this
  rfl)
/-- The map in block bm has c keys, and says f. -/
def Ms (w : World) (bm : Nat) (c : Nat) (f : ByteArray → Option Int) : Prop :=
  ∃ D : DataW Unit, w.ownsMap Tryd.prog 9 (plainElem Tryd.prog 3) bm c D ∧ Maps.size D = c ∧ ∀ x, x.size ≤ maxLen → Maps.has D (keyS x) = (f x).isSome ∧ ∀ v z, f x = some v → D.atKey (keyS x) z = .lit (.int .i64 v)
theorem Ms.new (w : World) : Ms (w.alloc (.map #[] 0)) w.heap.size 0 (fun _ => none) :=
  ⟨.map [], World.ownsMap_made w _ _ _, rfl, fun x _ => ⟨rfl, fun v z h => by cases h⟩⟩
theorem Ms.lt {w : World} {bm c : Nat} {f : ByteArray → Option Int} (h : Ms w bm c f) : bm < w.heap.size := by obtain ⟨D, h, _⟩ := h; exact h.lt
theorem Ms.kept {w w' : World} {bm c : Nat} {f : ByteArray → Option Int} (h : Ms w bm c f) {S : Nat → Prop} (k : Kept S w w') (hs : ¬ S bm) : Ms w' bm c f := by
  obtain ⟨D, ho, hp⟩ := h
  refine ⟨D, ?_, hp⟩
  obtain ⟨es, clock, hb, F⟩ := ho
  exact ⟨es, clock, by rw [k.block bm (Array.getElem?_eq_some_iff.1 hb).1 hs]; exact hb, F⟩
theorem Ms.below {w w' : World} {bm c : Nat} {f : ByteArray → Option Int} (h : Ms w bm c f) (k : Below w.heap.size w w') : Ms w' bm c f := h.kept (S := fun _ => False) (Kept.ofBelow k) (fun h => h)
theorem Ms.len {w : World} {bm c : Nat} {f : ByteArray → Option Int} (h : Ms w bm c f) (ty : TypeId) : (Builtin.len_ #[66] ty #[.map (some bm)]).run Tryd.prog w = .ok (.int .i64 (c : Int)) w := by
  obtain ⟨D, ho, hc, _⟩ := h
  rw [ho.len Tryd.underlying66 ty, hc]
theorem Ms.look {w : World} {bm c : Nat} {f : ByteArray → Option Int} (h : Ms w bm c f) {x : ByteArray} (hx : x.size ≤ maxLen) :
    (Instr.lookup 66 (.map (some bm)) (.string x) true).run Tryd.prog w = .ok (.tuple #[.int .i64 ((f x).getD 0), .bool (f x).isSome]) w := by
  obtain ⟨D, ho, _, hp⟩ := h
  obtain ⟨v, ps, hrun, hv⟩ := ho.look_ok law Tryd.underlying66 (zeroInt w) (plainElem_int Tryd.underlying3 (a := 0) rfl) (key_eq hx)
  rw [hrun]
  obtain ⟨h1, h2⟩ := hp x hx
  obtain ⟨a, rfl, hz, _⟩ := plainElem_int_inv Tryd.underlying3 hv
  cases hf : f x with
  | none =>
    rw [hf] at h1
    rw [Maps.atKey_of_not_has h1] at hz
    rw [h1]
    cases hz; rfl
  | some i =>
    rw [hf] at h1
    rw [h1]
    rw [h2 i _ hf] at hz
    cases hz; rfl
/-- One more, or another word on an old one. -/
def putF (f : ByteArray → Option Int) (x : ByteArray) (v : Int) : ByteArray → Option Int := fun y => if y = x then some v else f y
def delF (f : ByteArray → Option Int) (x : ByteArray) : ByteArray → Option Int := fun y => if y = x then none else f y
set_option maxRecDepth 100000 in
theorem Ms.store {w : World} {bm c : Nat} {f : ByteArray → Option Int} (h : Ms w bm c f) {x : ByteArray} (hx : x.size ≤ maxLen) {v : Int} (hv0 : (Lit.int .i64 v).wf = true) (hl : c ≤ 1048576) :
    ∃ w', (Instr.mapUpdate 66 (.map (some bm)) (.string x) (.int .i64 v)).run Tryd.prog w = .ok () w' ∧ Ms w' bm (if (f x).isSome then c else c + 1) (putF f x v) ∧ Kept (fun k => k = bm) w w' := by
  obtain ⟨D, ho, hc, hpp⟩ := h
  obtain ⟨w', hrun, ho', hg⟩ := ho.update law Tryd.underlying66 (by unfold maxLen; omega) (key_eq hx) (plainElem_int Tryd.underlying3 (a := v) hv0)
  have hsz := Maps.size_put (ho.tidy law) (k := keyS x) (.lit (.int .i64 v))
  rw [(hpp x hx).1, hc] at hsz
  have hown : w'.ownsMap Tryd.prog 9 (plainElem Tryd.prog 3) bm (if (f x).isSome then c else c + 1) (D.put (keyS x) (.lit (.int .i64 v))) := by
    obtain ⟨es, clock, h1, h2, h3, h4⟩ := ho'
    refine ⟨es, clock, h1, h2, ?_, h4⟩
    have e1 : Maps.size (DataW.map ((es.toList.map (WideElems.rg Tryd.prog 9 (plainElem (H := Unit) Tryd.prog 3))).foldr DataW.insert [])) = es.size := by simp [Maps.size, length_sorted]
    rw [← h4, hsz] at e1
    omega
  refine ⟨w', hrun, ⟨_, hown, hsz, fun y hy => ?_⟩, ⟨hg.os, hg.tape, hg.output, hg.size, fun i hi hne => hg.block i hi (fun e => hne (by cases e; rfl))⟩⟩
  unfold putF
  by_cases e : y = x
  · subst e
    rw [if_pos rfl]
    exact ⟨Maps.has_put_same ho.isMap (law.key (key_eq hx)) _, fun u z hu => by cases hu; exact Maps.atKey_put_same ho.isMap (law.key (key_eq hx)) _ z⟩
  · rw [if_neg e]
    have hk := key_ne hy hx e
    obtain ⟨h1, h2⟩ := hpp y hy
    exact ⟨by rw [Maps.has_put_other hk]; exact h1, fun u z hu => by rw [Maps.atKey_put_other hk]; exact h2 u z hu⟩

end Go.Proofs.YtldeakifeifgdaaDoor.Ms0

/- bits.OnesCount64: how many bits of a word are set. -/
namespace Go.Proofs.YtldeakifeifgdaaDoor.Tc1
open Go.RowKit
open Ta0 Ta1
set_option linter.unusedVariables false

theorem ret_int {k : IntKind} {a b : Int} (h : a = b) : Ending.returned (.int k a) = .returned (.int k b) := by rw [h]
theorem msk85 : msk 85 8 = 6148914691236517205 := by decide
theorem msk51 : msk 51 8 = 3689348814741910323 := by decide
theorem msk15 : msk 15 8 = 1085102592571150095 := by decide
theorem and_le_sum (x m : Nat) : x &&& m ≤ m := Nat.and_le_right

set_option maxRecDepth 100000 in
set_option maxHeartbeats 1000000 in
theorem ones (x : Nat) (hx : x < 18446744073709551616) (w : World) :
    Calls Tryd.prog 104 #[.int .u64 (x : Int)] w fun e w' => e = .returned (.int .i64 (cnt x.testBit 64 : Nat)) ∧ w' = w := by
  obtain ⟨y, hy⟩ : ∃ y, y = (x / 2 &&& msk 85 8) + (x &&& msk 85 8) := ⟨_, rfl⟩
  obtain ⟨z, hz⟩ : ∃ z, z = (y / 4 &&& msk 51 8) + (y &&& msk 51 8) := ⟨_, rfl⟩
  obtain ⟨t, ht⟩ : ∃ t, t = (z / 16 + z) &&& msk 15 8 := ⟨_, rfl⟩
  obtain ⟨u, hu⟩ : ∃ u, u = t + t / 256 := ⟨_, rfl⟩
  obtain ⟨v, hv⟩ : ∃ v, v = u + u / 65536 := ⟨_, rfl⟩
  obtain ⟨r, hr⟩ : ∃ r, r = v + v / 4294967296 := ⟨_, rfl⟩
  obtain ⟨hr1, hr2⟩ := pop64 x y z t u v r hx hy hz ht hu hv hr
  have HR : Hid (r % 128 = cnt x.testBit 64) := hr2
  rw [msk85] at hy
  rw [msk51] at hz
  rw [msk15] at ht
  have y1 : y < 18446744073709551616 := by
    have h1 := and_le_sum (x / 2) 6148914691236517205
    have h2 := and_le_sum x 6148914691236517205
    omega
  have z1 : z < 9223372036854775807 := by
    have h1 := and_le_sum (y / 4) 3689348814741910323
    have h2 := and_le_sum y 3689348814741910323
    omega
  have t1 : t ≤ 1085102592571150095 := by rw [ht]; exact and_le_sum _ _
  have e1 : IntKind.u64.wrap (bits .and .u64 ((x : Int) / 2) 6148914691236517205 + bits .and .u64 (x : Int) 6148914691236517205) = (y : Int) := by
    have h1 := bits_and_u64_nat (x / 2) 6148914691236517205 (by omega) (by omega)
    have h2 := bits_and_u64_nat x 6148914691236517205 hx (by omega)
    have e : (x : Int) / 2 = ((x / 2 : Nat) : Int) := by omega
    rw [e, show (6148914691236517205 : Int) = ((6148914691236517205 : Nat) : Int) from rfl, h1, h2, ← Int.natCast_add, ← hy, wrapu y1]
  have e2 : IntKind.u64.wrap (bits .and .u64 ((y : Int) / 4) 3689348814741910323 + bits .and .u64 (y : Int) 3689348814741910323) = (z : Int) := by
    have h1 := bits_and_u64_nat (y / 4) 3689348814741910323 (by omega) (by omega)
    have h2 := bits_and_u64_nat y 3689348814741910323 y1 (by omega)
    have e : (y : Int) / 4 = ((y / 4 : Nat) : Int) := by omega
    rw [e, show (3689348814741910323 : Int) = ((3689348814741910323 : Nat) : Int) from rfl, h1, h2, ← Int.natCast_add, ← hz, wrapu (by omega)]
  have e3 : bits .and .u64 (IntKind.u64.wrap ((z : Int) / 16 + (z : Int))) 1085102592571150095 = (t : Int) := by
    have h1 := bits_and_u64_nat (z / 16 + z) 1085102592571150095 (by omega) (by omega)
    have e : (z : Int) / 16 + (z : Int) = ((z / 16 + z : Nat) : Int) := by omega
    rw [e, wrapu (by omega), show (1085102592571150095 : Int) = ((1085102592571150095 : Nat) : Int) from rfl, h1, ← ht]
  have e3' : bits .and .u64 ((z : Int) / 16 + (z : Int)) 1085102592571150095 = (t : Int) := by
    rw [← e3, show (z : Int) / 16 + (z : Int) = ((z / 16 + z : Nat) : Int) by omega, wrapu (by omega)]
  have e4' : (t : Int) + (t : Int) / 256 = (u : Int) := by omega
  have e5' : (u : Int) + (u : Int) / 65536 = (v : Int) := by omega
  have e6' : (v : Int) + (v : Int) / 4294967296 = (r : Int) := by omega
  have e4 : IntKind.u64.wrap ((t : Int) + (t : Int) / 256) = (u : Int) := by
    rw [show (t : Int) + (t : Int) / 256 = (u : Int) by omega, wrapu (by omega)]
  have e5 : IntKind.u64.wrap ((u : Int) + (u : Int) / 65536) = (v : Int) := by
    rw [show (u : Int) + (u : Int) / 65536 = (v : Int) by omega, wrapu (by omega)]
  have e6 : IntKind.u64.wrap ((v : Int) + (v : Int) / 4294967296) = (r : Int) := by
    rw [show (v : Int) + (v : Int) / 4294967296 = (r : Int) by omega, wrapu (by omega)]
  have r1 : r < 2 ^ 62 := by omega
  have HE : Hid (bits .and .i64 (r : Int) 127 = ((cnt x.testBit 64 : Nat) : Int)) := by
    show _ = _
    rw [show (127 : Int) = ((127 : Nat) : Int) from rfl, band62 r1 (by omega), ← HR.out, show (127 : Nat) = 2 ^ 7 - 1 from rfl, Nat.and_two_pow_sub_one_eq_mod]
  have e7 : wrap64 (r : Int) = (r : Int) := by unfold wrap64; omega
  have e8 : IntKind.u64.wrap (r : Int) = (r : Int) := wrapu (by omega)
  have hy0 : Hid (y = (x / 2 &&& 6148914691236517205) + (x &&& 6148914691236517205)) := hy
  clear hy hz ht hu hv hr HR hy0 hr2
  generalize cnt x.testBit 64 = c at HE ⊢
  go_enter Tryd.func104, Tryd.ntmps104
  go_wp2
  go_ret
  exact ⟨ret_int HE.out, rfl⟩

end Go.Proofs.YtldeakifeifgdaaDoor.Tc1

/- Packed tables: the table of one; how many bits are set; the bits in use; whether it needs a bit. -/
namespace Go.Proofs.YtldeakifeifgdaaDoor.Tc6
open Go.RowKit
open Ta0 Ta1 Tc2 Tc4 Tc5
open Nd0 (Kept set_other set_same lt_of_cell)
open Ss0 (bs bs_size ret_str)
open Ss1 (tl tl_length tl_get tl_take bs_tl tl_bs tl_inj eqb)
set_option linter.unusedVariables false

theorem infoB : (Tryd.prog.info? 5).map (fun i => (i.zero, i.size, i.bytes)) = some (some (.int .u8 0), 1, 1) := by kernel_rfl
def noughtsB (n : Nat) : Array Value := madeCells #[.int .u8 0] (n * 1)
theorem noughtsB_get (n j : Nat) (h : j < n) : (noughtsB n)[j]? = some (.int .u8 0) := by
  simp only [noughtsB, madeCells, Array.getElem?_map, Array.getElem?_range]
  rw [if_pos (by omega)]
  simp only [Option.map_some]
  have e : j % 1 = 0 := Nat.mod_one j
  exact congrArg (fun m => some ((#[.int .u8 0] : Array Value)[m]!)) e
theorem makeBytes (n : Nat) (hn : n ≤ 1048576) (w : World) :
    (Instr.makeSlice 22 (.int .i64 (n : Int)) (.int .i64 (n : Int))).run Tryd.prog w = .ok (.slice (some ⟨w.heap.size, 0, none⟩) n n) (w.alloc (.cells (noughtsB n) 5)) := by
  obtain ⟨i, hi, hzz⟩ := Option.map_eq_some_iff.1 infoB
  simp only [Prod.mk.injEq] at hzz
  obtain ⟨hz, hs, hb⟩ := hzz
  have h := run_make (P := Tryd.prog) w 22 5 i _ Tryd.underlying22 hi hz .i64 .i64 n n (by omega) (Int.le_refl _) (by rw [hb]; omega) (by omega)
  rw [hs] at h
  simpa [noughtsB, Value.cells] using h
/-- Signs in block c, the first k of them written. -/
def Sgs (W : World) (c P k : Nat) (G : Nat → Bool) : Prop := ∀ j, j < P → (∃ v : Int, W.cell? ⟨c, j, none⟩ = some (.int .u8 v) ∧ (j < k → v = ((sgn (G j)).toNat : Int))) ∧ W.frozen? ⟨c, j, none⟩ = false
theorem Sgs.kept {W W' : World} {c P k : Nat} {G : Nat → Bool} (h : Sgs W c P k G) {S : Nat → Prop} (q : Kept S W W') (hs : ¬ S c) : Sgs W' c P k G := fun j hj => by
  obtain ⟨⟨v, h1, h2⟩, h3⟩ := h j hj
  have hg : c < W.heap.size := World.block_lt_of_cell? _ _ h1
  exact ⟨⟨v, by rw [q.cell (p := ⟨c, j, none⟩) hg hs]; exact h1, h2⟩, by rw [q.frozen (p := ⟨c, j, none⟩) hg hs]; exact h3⟩
theorem Sgs.below {W W' : World} {c P k : Nat} {G : Nat → Bool} (h : Sgs W c P k G) (q : Below W.heap.size W W') : Sgs W' c P k G := h.kept (S := fun _ => False) (Kept.ofBelow q) (fun h => h)
theorem Sgs.set {W : World} {c P k : Nat} {G : Nat → Bool} (h : Sgs W c P k G) (v : Int) (hv : v = ((sgn (G k)).toNat : Int)) : Sgs (W.setCell ⟨c, k, none⟩ (.int .u8 v)) c P (k + 1) G := fun j hj => by
  obtain ⟨⟨u, h1, h2⟩, h3⟩ := h j hj
  by_cases e : j = k
  · subst e
    exact ⟨⟨v, set_same h1, fun _ => hv⟩, by rw [World.frozen?_setCell]; exact h3⟩
  · exact ⟨⟨u, by rw [set_other (by simp <;> omega)]; exact h1, fun x => h2 (by omega)⟩, by rw [World.frozen?_setCell]; exact h3⟩
theorem Sgs.made (W : World) (P : Nat) (G : Nat → Bool) : Sgs (W.alloc (.cells (noughtsB P) 5)) W.heap.size P 0 G := fun j hj =>
  ⟨⟨0, by rw [World.cell?_alloc_new]; exact noughtsB_get _ _ hj, fun x => by omega⟩, by simp⟩
theorem Sgs.text {W : World} {c n : Nat} {G : Nat → Bool} (h : Sgs W c (2 ^ n) (2 ^ n) G) : (convert 22 9 (.slice (some ⟨c, 0, none⟩) (2 ^ n) (2 ^ n))).run Tryd.prog W = .ok (.string (bs (tab n G))) W := by
  have := run_convert_bytes_back (P := Tryd.prog) W 22 9 5 ⟨c, 0, none⟩ (2 ^ n) (tab n G) Tryd.underlying22 Tryd.underlying5 Tryd.underlying9 (fun j hj => by
    obtain ⟨⟨v, h1, h2⟩, _⟩ := h j (by rw [tab_length] at hj; exact hj)
    rw [tab_get, ← h2 (by rw [tab_length] at hj; exact hj)]
    rw [Addr.add_lit, Nat.zero_add]; exact h1)
  rw [tab_length] at this
  exact this

end Go.Proofs.YtldeakifeifgdaaDoor.Tc6

/- Packed tables: how many bits are set; the bits in use; whether it needs a bit. -/
namespace Go.Proofs.YtldeakifeifgdaaDoor.Tc7
open Go.RowKit
open Ta0 Ta1 Tc2 Tc4 Tc5
open Nd0 (Kept set_other set_same lt_of_cell)
open Tc1 (ones)
set_option linter.unusedVariables false

set_option maxRecDepth 100000 in
set_option maxHeartbeats 2000000 in
theorem count (n g : Nat) (G : Nat → Bool) (w : World) (hn : n ≤ 12) (hW : Wds w g (nw n) G) :
    Calls Tryd.prog 97 #[pv n (nw n) g] w fun e w' => e = .returned (.int .i64 ((cnt G (64 * nw n) : Nat) : Int)) ∧ Below w.heap.size w w' := by
  have hnw := nw_le hn
  have hgl := hW.lt (by omega)
  have HW : Hid (∀ i, i < nw n → w.cell? ⟨g, i, none⟩ = some (.int .u64 (wd G i : Int))) := fun i hi => (hW i hi).1
  have HB : Hid (Below w.heap.size w (w.alloc (.cells #[.int .i64 (n : Int), .slice (some ⟨g, 0, none⟩) (nw n) (nw n)] 113))) := (Below.refl _ _).alloc (Nat.le_refl _) _
  clear hW
  generalize nw n = m at *
  go_enter Tryd.func97, Tryd.ntmps97
  go_wp2
  go_loop [3, 9] (fun c i => ∃ k : Nat, k ≤ m ∧ i = .int .i64 k ∧ c = .int .i64 ((cnt G (64 * k) : Nat) : Int)) (fun _ i => m - (intOf i).toNat)
  case atStart => exact ⟨0, Nat.zero_le _, rfl, rfl⟩
  case round =>
    obtain ⟨k, hk, rfl, rfl⟩ := hrel
    have hc := cnt_le G (64 * k)
    by_cases hlt : k < m
    · have hkz : (k : Int) < (m : Int) := by omega
      have c0 := HW.out k hlt
      have hwl := wd_lt G k
      have HC : Hid (cnt G (64 * (k + 1)) = cnt G (64 * k) + cnt (wd G k).testBit 64) := cnt_wd G k
      have hc2 := cnt_le (wd G k).testBit 64
      have HO : Hid (∀ W, Calls Tryd.prog 104 #[.int .u64 (wd G k : Int)] W fun e w' => e = .returned (.int .i64 (cnt (wd G k).testBit 64 : Nat)) ∧ w' = W) := fun W => ones _ hwl W
      generalize cnt (wd G k).testBit 64 = d at *
      generalize wd G k = x at *
      generalize cnt G (64 * k) = y at *
      go_wp2_with (go_at_call 104; refine (HO.out _).mono ?_; rintro e w' ⟨rfl, rfl⟩)
      go_round
      case rel => exact ⟨k + 1, by omega, by go_num, by rw [HC.out]; go_num⟩
      case measure => simp [intOf]; omega
    · have HE : Hid (k = m) := by show _ = _; omega
      go_wp2
      go_ret
      exact ⟨ret_int (by rw [HE.out]), HB.out⟩

theorem ret_uint {a b : Int} (h : a = b) : Ending.returned (.int .u64 a) = .returned (.int .u64 b) := by rw [h]
theorem use_wrap (P : Nat) : IntKind.u64.wrap (IntKind.u64.wrap ((2 : Int) ^ (min P 64)) - 1) = ((use P : Nat) : Int) := by
  unfold use
  by_cases h : P < 64
  · have h1 : 2 ^ P < 18446744073709551616 := Nat.lt_of_lt_of_le (Nat.pow_lt_pow_right (by omega) h) (by decide)
    have h2 := Nat.one_le_two_pow (n := P)
    rw [if_pos h, Nat.min_eq_left (by omega), pcast, wrapu h1, show ((2 ^ P : Nat) : Int) - 1 = ((2 ^ P - 1 : Nat) : Int) by omega, wrapu (by omega)]
  · rw [if_neg h, Nat.min_eq_right (by omega)]
    decide

/-- What stands while a bit is looked for. -/
structure SN (w : World) (n m g : Nat) (G : Nat → Bool) (W : World) : Prop where
  lay : Lay W w.heap.size (.int .i64 (n : Int)) (.slice (some ⟨g, 0, none⟩) m m)
  wds : Wds W g m G
  bel : Below w.heap.size w W
theorem SN.below {w : World} {n m g : Nat} {G : Nat → Bool} {W W' : World} (h : SN w n m g G W) (k : Below W.heap.size W W') : SN w n m g G W' :=
  ⟨h.lay.below k, h.wds.below k, h.bel.trans (k.mono h.bel.size)⟩
theorem SN.drew {w : World} {n m g : Nat} {G : Nat → Bool} {W : World} (h : SN w n m g G W) : SN w n m g G W.drew :=
  ⟨h.lay.kept (S := fun _ => False) (Kept.refl _ _).drew (fun h => h), h.wds.kept (S := fun _ => False) (Kept.refl _ _).drew (fun h => h), below_drewN h.bel 1⟩

end Go.Proofs.YtldeakifeifgdaaDoor.Tc7

/- Packed tables: what is not. -/
namespace Go.Proofs.YtldeakifeifgdaaDoor.Tc8
open Go.RowKit
open Ta0 Ta1 Tc2 Tc4 Tc5 Tc7
open Nd0 (Kept set_other set_same lt_of_cell)
set_option linter.unusedVariables false

/-- Words in block g, the first k of them those of H. -/
def Wdk (W : World) (g m k : Nat) (H : Nat → Bool) : Prop := ∀ j, j < m → (∃ v : Int, W.cell? ⟨g, j, none⟩ = some (.int .u64 v) ∧ (j < k → v = (wd H j : Int))) ∧ W.frozen? ⟨g, j, none⟩ = false
theorem Wdk.kept {W W' : World} {c P k : Nat} {G : Nat → Bool} (h : Wdk W c P k G) {S : Nat → Prop} (q : Kept S W W') (hs : ¬ S c) : Wdk W' c P k G := fun j hj => by
  obtain ⟨⟨v, h1, h2⟩, h3⟩ := h j hj
  have hg : c < W.heap.size := World.block_lt_of_cell? _ _ h1
  exact ⟨⟨v, by rw [q.cell (p := ⟨c, j, none⟩) hg hs]; exact h1, h2⟩, by rw [q.frozen (p := ⟨c, j, none⟩) hg hs]; exact h3⟩
theorem Wdk.below {W W' : World} {c P k : Nat} {G : Nat → Bool} (h : Wdk W c P k G) (q : Below W.heap.size W W') : Wdk W' c P k G := h.kept (S := fun _ => False) (Kept.ofBelow q) (fun h => h)
theorem Wdk.set {W : World} {c P k : Nat} {G : Nat → Bool} (h : Wdk W c P k G) (v : Int) (hv : v = (wd G k : Int)) : Wdk (W.setCell ⟨c, k, none⟩ (.int .u64 v)) c P (k + 1) G := fun j hj => by
  obtain ⟨⟨u, h1, h2⟩, h3⟩ := h j hj
  by_cases e : j = k
  · subst e
    exact ⟨⟨v, set_same h1, fun _ => hv⟩, by rw [World.frozen?_setCell]; exact h3⟩
  · exact ⟨⟨u, by rw [set_other (by simp <;> omega)]; exact h1, fun x => h2 (by omega)⟩, by rw [World.frozen?_setCell]; exact h3⟩
theorem Wdk.start {W : World} {g m : Nat} {F : Nat → Bool} (h : Wds W g m F) (H : Nat → Bool) : Wdk W g m 0 H := fun j hj => ⟨⟨_, (h j hj).1, fun x => by omega⟩, (h j hj).2⟩
theorem Wdk.done {W : World} {g m : Nat} {H : Nat → Bool} (h : Wdk W g m m H) : Wds W g m H := fun j hj => by
  obtain ⟨⟨v, h1, h2⟩, h3⟩ := h j hj
  rw [h2 hj] at h1
  exact ⟨h1, h3⟩

theorem flip64 {x : Nat} (h : x < 18446744073709551616) : 18446744073709551615 ^^^ x = 18446744073709551615 - x := by
  refine Nat.eq_of_testBit_eq fun j => ?_
  have h2 := Nat.testBit_two_pow_sub_succ (n := 64) (x := x) h j
  have h1 := Nat.testBit_two_pow_sub_one 64 j
  rw [show (2 : Nat) ^ 64 - 1 = 18446744073709551615 from rfl] at h1
  rw [show 18446744073709551615 - x = 2 ^ 64 - (x + 1) by omega, h2, Nat.testBit_xor, h1]
  by_cases hj : j < 64
  · simp [hj]
  · have : x.testBit j = false := Nat.testBit_lt_two_pow (Nat.lt_of_lt_of_le h (Nat.le_trans (by decide : 18446744073709551616 ≤ 2 ^ 64) (Nat.pow_le_pow_right (by omega) (by omega))))
    simp [hj, this]
theorem sother {W : World} {b c o p : Nat} {u v : Value} (h : W.cell? ⟨b, o, none⟩ = some u) (hb : c ≠ b) : (W.setCell ⟨c, p, none⟩ v).cell? ⟨b, o, none⟩ = some u := by
  rw [set_other (fun e => hb (congrArg Addr.block e))]; exact h

/-- What stands while the words of a new packed table are written. -/
structure WN (w : World) (n m g q g2 : Nat) (F H : Nat → Bool) (k : Nat) (W : World) : Prop where
  lay : Lay W w.heap.size (.int .i64 (n : Int)) (.slice (some ⟨g, 0, none⟩) m m)
  res : Lay W (w.heap.size + 1) (.int .i64 0) (.slice none 0 0)
  new : Lay W q (.int .i64 (n : Int)) (.slice (some ⟨g2, 0, none⟩) m m)
  wds : Wds W g m F
  wdk : Wdk W g2 m k H
  bel : Below w.heap.size w W
theorem WN.below {w : World} {n m g q g2 k : Nat} {F H : Nat → Bool} {W W' : World} (h : WN w n m g q g2 F H k W) (b : Below W.heap.size W W') : WN w n m g q g2 F H k W' :=
  ⟨h.lay.below b, h.res.below b, h.new.below b, h.wds.below b, h.wdk.below b, h.bel.trans (b.mono h.bel.size)⟩
theorem WN.drew {w : World} {n m g q g2 k : Nat} {F H : Nat → Bool} {W : World} (h : WN w n m g q g2 F H k W) : WN w n m g q g2 F H k W.drew :=
  h.below (below_drewN (Below.refl _ _) 1)
theorem WN.set {w : World} {n m g q g2 k : Nat} {F H : Nat → Bool} {W : World} (h : WN w n m g q g2 F H k W) (hg : g ≠ g2) (h0 : w.heap.size + 2 ≤ g2) (hq : g2 ≠ q) (v : Int) (hv : v = (wd H k : Int)) : WN w n m g q g2 F H (k + 1) (W.setCell ⟨g2, k, none⟩ (.int .u64 v)) := by
  have K := kset (S := fun b => b = g2) (Kept.refl (fun b => b = g2) W) (b := g2) (o := k) rfl (.int .u64 v)
  exact ⟨h.lay.kept K (by omega), h.res.kept K (by omega), h.new.kept K (fun e => hq e.symm), h.wds.kept K hg, h.wdk.set v hv, h.bel.trans (K.below (fun b hb => by omega) h.bel.size)⟩

end Go.Proofs.YtldeakifeifgdaaDoor.Tc8

/- Packed tables: two put together, by and or by exclusive or. -/
namespace Go.Proofs.YtldeakifeifgdaaDoor.Tc9
open Go.RowKit
open Ta0 Ta1 Tc2 Tc4 Tc5 Tc7 Tc8
open Nd0 (Kept set_other set_same lt_of_cell)
set_option linter.unusedVariables false

/-- What stands while the words of two are put together. -/
structure WT (w : World) (n m g h q g2 : Nat) (F G H : Nat → Bool) (k : Nat) (W : World) : Prop where
  lay : Lay W w.heap.size (.int .i64 (n : Int)) (.slice (some ⟨g, 0, none⟩) m m)
  lay2 : Lay W (w.heap.size + 1) (.int .i64 (n : Int)) (.slice (some ⟨h, 0, none⟩) m m)
  res : Lay W (w.heap.size + 2) (.int .i64 0) (.slice none 0 0)
  new : Lay W q (.int .i64 (n : Int)) (.slice (some ⟨g2, 0, none⟩) m m)
  wds : Wds W g m F
  wds2 : Wds W h m G
  wdk : Wdk W g2 m k H
  bel : Below w.heap.size w W
theorem WT.below {w : World} {n m g h q g2 k : Nat} {F G H : Nat → Bool} {W W' : World} (s : WT w n m g h q g2 F G H k W) (b : Below W.heap.size W W') : WT w n m g h q g2 F G H k W' :=
  ⟨s.lay.below b, s.lay2.below b, s.res.below b, s.new.below b, s.wds.below b, s.wds2.below b, s.wdk.below b, s.bel.trans (b.mono s.bel.size)⟩
theorem WT.drew {w : World} {n m g h q g2 k : Nat} {F G H : Nat → Bool} {W : World} (s : WT w n m g h q g2 F G H k W) : WT w n m g h q g2 F G H k W.drew :=
  s.below (below_drewN (Below.refl _ _) 1)
theorem WT.set {w : World} {n m g h q g2 k : Nat} {F G H : Nat → Bool} {W : World} (s : WT w n m g h q g2 F G H k W) (hg : g ≠ g2) (hh : h ≠ g2) (h0 : w.heap.size + 3 ≤ g2) (hq : g2 ≠ q) (v : Int) (hv : v = (wd H k : Int)) : WT w n m g h q g2 F G H (k + 1) (W.setCell ⟨g2, k, none⟩ (.int .u64 v)) := by
  have K := kset (S := fun b => b = g2) (Kept.refl (fun b => b = g2) W) (b := g2) (o := k) rfl (.int .u64 v)
  exact ⟨s.lay.kept K (by omega), s.lay2.kept K (by omega), s.res.kept K (by omega), s.new.kept K (fun e => hq e.symm), s.wds.kept K hg, s.wds2.kept K hh, s.wdk.set v hv, s.bel.trans (K.below (fun b hb => by omega) s.bel.size)⟩

end Go.Proofs.YtldeakifeifgdaaDoor.Tc9

/- Packed tables: a half. -/
namespace Go.Proofs.YtldeakifeifgdaaDoor.Tc10
open Go.RowKit
open Ta0 Ta1 Tc2 Tc4 Tc5 Tc7 Tc8
open Nd0 (Kept set_other set_same lt_of_cell)
set_option linter.unusedVariables false

/-- What stands while a half is made. -/
structure WH (w : World) (n m n2 m2 g q g2 : Nat) (F H : Nat → Bool) (W : World) : Prop where
  lay : Lay W w.heap.size (.int .i64 (n : Int)) (.slice (some ⟨g, 0, none⟩) m m)
  res : Lay W (w.heap.size + 1) (.int .i64 0) (.slice none 0 0)
  new : Lay W q (.int .i64 (n2 : Int)) (.slice (some ⟨g2, 0, none⟩) m2 m2)
  wds : Wds W g m F
  wdk : Wdk W g2 m2 0 H
  bel : Below w.heap.size w W
theorem WH.below {w : World} {n m n2 m2 g q g2 : Nat} {F H : Nat → Bool} {W W' : World} (h : WH w n m n2 m2 g q g2 F H W) (b : Below W.heap.size W W') : WH w n m n2 m2 g q g2 F H W' :=
  ⟨h.lay.below b, h.res.below b, h.new.below b, h.wds.below b, h.wdk.below b, h.bel.trans (b.mono h.bel.size)⟩
theorem WH.drewN {w : World} {n m n2 m2 g q g2 : Nat} {F H : Nat → Bool} {W : World} (h : WH w n m n2 m2 g q g2 F H W) (k : Nat) : WH w n m n2 m2 g q g2 F H (W.drewN k) :=
  h.below (below_drewN (Below.refl _ _) k)

theorem WH.drew {w : World} {n m n2 m2 g q g2 : Nat} {F H : Nat → Bool} {W : World} (h : WH w n m n2 m2 g q g2 F H W) : WH w n m n2 m2 g q g2 F H W.drew := h.drewN 1

/-- Behind the store of the one word. -/
theorem fin1 {w : World} {n n2 g q g2 : Nat} {F H : Nat → Bool} {W : World} (h : WH w n 1 n2 1 g q g2 F H W) (hq : g2 ≠ q) (h0 : w.heap.size + 2 ≤ g2) (_ : True ∨ True) :
    Lay (W.setCell ⟨g2, 0, none⟩ (.int .u64 (wd H 0 : Int))) (w.heap.size + 1) (.int .i64 0) (.slice none 0 0) ∧ Lay (W.setCell ⟨g2, 0, none⟩ (.int .u64 (wd H 0 : Int))) q (.int .i64 (n2 : Int)) (.slice (some ⟨g2, 0, none⟩) 1 1) ∧ Wds (W.setCell ⟨g2, 0, none⟩ (.int .u64 (wd H 0 : Int))) g2 1 H ∧ Below w.heap.size w (W.setCell ⟨g2, 0, none⟩ (.int .u64 (wd H 0 : Int))) := by
  have K := kset (S := fun b => b = g2) (Kept.refl (fun b => b = g2) W) (b := g2) (o := 0) rfl (.int .u64 (wd H 0 : Int))
  exact ⟨h.res.kept K (by omega), h.new.kept K (fun e => hq e.symm), (h.wdk.set _ rfl).done, h.bel.trans (K.below (fun b hb => by omega) h.bel.size)⟩
theorem fin {w W : World} {g2 m2 : Nat} {H : Nat → Bool} {a b : Value} (hr : Lay W (w.heap.size + 1) a b) (hw : Wds W g2 m2 H) (hb : Below w.heap.size w W) (hne : w.heap.size + 2 ≤ g2) (x y : Value) :
    ∃ W', W' = (W.setCell ⟨w.heap.size + 1, 0, none⟩ x).setCell ⟨w.heap.size + 1, 1, none⟩ y ∧ Lay W' (w.heap.size + 1) x y ∧ Wds W' g2 m2 H ∧ Below w.heap.size w W' := by
  have K : Kept (fun b => b = w.heap.size + 1) W ((W.setCell ⟨w.heap.size + 1, 0, none⟩ x).setCell ⟨w.heap.size + 1, 1, none⟩ y) := kset (S := fun b => b = w.heap.size + 1) (kset (S := fun b => b = w.heap.size + 1) (Kept.refl (fun b => b = w.heap.size + 1) W) rfl _) rfl _
  exact ⟨_, rfl, hr.put x y, hw.kept K (by omega), hb.trans (K.below (fun b hb => by omega) hb.size)⟩
/-- Words as cells. -/
def wcs (m : Nat) (H : Nat → Bool) : List Value := (List.range m).map fun i => .int .u64 (wd H i : Int)
theorem wcs_length (m : Nat) (H : Nat → Bool) : (wcs m H).length = m := by simp [wcs]
theorem wcs_get (m : Nat) (H : Nat → Bool) (i : Nat) (h : i < (wcs m H).length) : (wcs m H)[i] = .int .u64 (wd H i : Int) := by simp [wcs]
theorem sizeU : (Tryd.prog.info? 115).map (·.size) = some 1 := by kernel_rfl
theorem copyW {w : World} {n m n2 m2 g q g2 : Nat} {F H : Nat → Bool} {W : World} (h : WH w n m n2 m2 g q g2 F H W) (fr : Nat) (h1 : fr + m2 ≤ m) (h2 : ∀ i, i < m2 → wd F (fr + i) = wd H i) :
    (Builtin.copy_ #[111, 111] 3 #[.slice (some ⟨g2, 0, none⟩) m2 m2, .slice (some ⟨g, fr, none⟩) m2 m2]).run Tryd.prog W.drew = .ok (.int .i64 (m2 : Int)) (W.drew.setCells g2 0 (wcs m2 H)) := by
  have hd : WH w n m n2 m2 g q g2 F H W.drew := h.below (below_drewN (Below.refl _ _) 1)
  have := run_copy_cells (P := Tryd.prog) W.drew 111 111 3 115 g2 0 m2 m2 ⟨g, fr, none⟩ m2 m2 (wcs m2 H) Tryd.underlying111 sizeU (by rw [wcs_length]; simp)
    (fun j v hv => by
      obtain ⟨hj, rfl⟩ := List.getElem?_eq_some_iff.1 hv
      have hj' : j < m2 := by rwa [wcs_length] at hj
      rw [wcs_get, ← h2 j hj', Addr.add_lit]
      exact (hd.wds (fr + j) (by omega)).1)
    (fun j hj => by
      rw [wcs_length] at hj
      obtain ⟨⟨v, hv, _⟩, _⟩ := hd.wdk j hj
      rw [Nat.zero_add, hv]; rfl)
    (fun j hj => by
      rw [wcs_length] at hj
      rw [Nat.zero_add]; exact (hd.wdk j hj).2)
    (fun v hv => by
      obtain ⟨i, _, rfl⟩ := List.mem_map.1 hv
      rfl)
  rw [wcs_length] at this
  exact this
theorem kset_all {b : Nat} : ∀ (vs : List Value) (o : Nat) (w : World), Kept (fun i => i = b) w (w.setCells b o vs)
  | [], _, w => Kept.refl _ _
  | v :: r, o, w => (kset (S := fun i => i = b) (Kept.refl (fun i => i = b) w) rfl v).trans (kset_all r (o + 1) _)
/-- Behind the copy of the words. -/
theorem fin2 {w : World} {n m n2 m2 g q g2 : Nat} {F H : Nat → Bool} {W : World} (h0 : WH w n m n2 m2 g q g2 F H W) (hq : g2 ≠ q) (hs : w.heap.size + 2 ≤ g2) :
    Lay (W.drew.setCells g2 0 (wcs m2 H)) (w.heap.size + 1) (.int .i64 0) (.slice none 0 0) ∧ Lay (W.drew.setCells g2 0 (wcs m2 H)) q (.int .i64 (n2 : Int)) (.slice (some ⟨g2, 0, none⟩) m2 m2) ∧ Wds (W.drew.setCells g2 0 (wcs m2 H)) g2 m2 H ∧ Below w.heap.size w (W.drew.setCells g2 0 (wcs m2 H)) := by
  have h := h0.drew
  have K := kset_all (b := g2) (wcs m2 H) 0 W.drew
  refine ⟨h.res.kept K (by omega), h.new.kept K (fun e => hq e.symm), fun i hi => ⟨?_, ?_⟩, h.bel.trans (K.below (fun b hb => by omega) h.bel.size)⟩
  · have := World.cell?_setCells_in g2 (wcs m2 H) 0 W.drew (fun j hj => by
      rw [wcs_length] at hj
      obtain ⟨⟨v, hv, _⟩, _⟩ := h.wdk j hj
      rw [Nat.zero_add, hv]; rfl) i (by rw [wcs_length]; exact hi)
    rw [Nat.zero_add, wcs_get] at this
    exact this
  · rw [World.frozen?_setCells]; exact (h.wdk i hi).2
theorem nw_low {n : Nat} (h : n ≤ 6) : nw n = 1 := by
  have h6 : 2 ^ n ≤ 2 ^ 6 := Nat.pow_le_pow_right (by omega) h
  have := Nat.one_le_two_pow (n := n)
  unfold nw; omega
theorem nw_high {n : Nat} (h : 6 ≤ n) : nw n = 2 ^ n / 64 ∧ nw (n + 1) = 2 * nw n := by
  have hd : 2 ^ n = 64 * 2 ^ (n - 6) := by rw [show (64 : Nat) = 2 ^ 6 from rfl, ← Nat.pow_add]; congr 1; omega
  have hp : 2 ^ (n + 1) = 2 * 2 ^ n := by rw [Nat.pow_succ]; omega
  unfold nw; omega

end Go.Proofs.YtldeakifeifgdaaDoor.Tc10

/- The program's functions over tables: count, known, not. -/
namespace Go.Proofs.YtldeakifeifgdaaDoor.Te1
open Go.RowKit
open Ta0 Ta1 Ta2 Tc2 Tc4 Tc5 Tc6 Tc7 Tc8 Td1 Td2
open Nd0 (Kept Ints set_other set_same lt_of_cell)
open Ss0 (bs bs_size ret_str bs_ext)
open Ss1 (tl tl_length tl_get tl_take bs_tl tl_bs tl_inj eqb)
set_option linter.unusedVariables false

theorem iOk1 (n : Nat) (F : Nat → Bool) (w : World) (hn : n ≤ 12) :
    Calls Tryd.prog 29 #[tv (n : Int) (bs (tab n F))] w fun e w' => e = .returned (.bool true) ∧ Below w.heap.size w w' := by
  have := iTableOk (n : Int) (bs (tab n F)) w (by rw [bs_size, tab_length]; have := p12 hn; omega)
  rwa [tl_bs, tab_tok F hn] at this
theorem iOk0 {N : Int} {S : ByteArray} (w : World) (hS : S.size ≤ 1048576) (h : tokB N (tl S) = false) :
    Calls Tryd.prog 29 #[tv N S] w fun e w' => e = .returned (.bool false) ∧ Below w.heap.size w w' := by
  have := iTableOk N S w hS
  rwa [h] at this
/-- A table packed: what comes of it, with the frame. -/
theorem count_tab (n : Nat) (F : Nat → Bool) : cnt (upto (2 ^ n) F) (64 * nw n) = cnt F (2 ^ n) := cnt_past F _ _ (by unfold nw; omega)
theorem tab_upto (n : Nat) (F : Nat → Bool) : tab n (upto (2 ^ n) F) = tab n F := tab_ext fun i hi => by simp [upto, hi]

set_option maxHeartbeats 400000 in
theorem iBitOk (x : Int) (w : World) : Calls Tryd.prog 67 #[.int .i64 x] w fun e w' => e = .returned (.bool (bitB x)) ∧ w' = w := by
  by_cases h0 : x = 0
  · have hb : (x == 0) = true := by rw [h0]; rfl
    have HB : Hid (bitB x = true) := decide_eq_true (.inl h0)
    clear h0
    go_enter Tryd.func67, Tryd.ntmps67
    go_wp2
    go_ret
    exact ⟨ret_bool HB.out.symm, rfl⟩
  · have hb : (x == 0) = false := beq_eq_false_iff_ne.2 h0
    by_cases h1 : x = 1
    · have hb1 : (x == 1) = true := by rw [h1]; rfl
      have HB : Hid (bitB x = true) := decide_eq_true (.inr h1)
      clear h0 h1
      go_enter Tryd.func67, Tryd.ntmps67
      go_wp2
      go_ret
      exact ⟨ret_bool HB.out.symm, rfl⟩
    · have hb1 : (x == 1) = false := beq_eq_false_iff_ne.2 h1
      have HB : Hid (bitB x = false) := decide_eq_false (by omega)
      clear h0 h1
      go_enter Tryd.func67, Tryd.ntmps67
      go_wp2
      go_ret
      exact ⟨ret_bool HB.out.symm, rfl⟩

set_option maxHeartbeats 1000000 in
theorem iKnown0 {N : Int} {S : ByteArray} (w : World) (hS : S.size ≤ 1048576) (h : tokB N (tl S) = false) :
    Calls Tryd.prog 86 #[tv N S] w fun e w' => e = .returned (.int .i64 (-1)) ∧ Below w.heap.size w w' := by
  have HO : Hid (∀ W, Calls Tryd.prog 29 #[tv N S] W fun e w' => e = .returned (.bool false) ∧ Below W.heap.size W w') := fun W => iOk0 W hS h
  have HA : Hid (Below w.heap.size w (w.alloc (.cells #[.int .i64 N, .string S] 26))) := (Below.refl _ _).alloc (Nat.le_refl _) _
  clear h
  go_enter Tryd.func86, Tryd.ntmps86
  go_wp2_with fail
  refine (HO.out _).mono ?_
  rintro e w1 ⟨rfl, hb⟩
  have HB : Hid (Below w.heap.size w w1) := HA.out.trans (hb.mono HA.out.size)
  clear hb
  go_wp2
  go_ret
  exact ⟨rfl, HB.out⟩

set_option maxHeartbeats 2000000 in
theorem iKnown (n : Nat) (F : Nat → Bool) (w : World) (hn : n ≤ 12) :
    Calls Tryd.prog 86 #[tv (n : Int) (bs (tab n F))] w fun e w' => e = .returned (.int .i64 (knw n F)) ∧ Below w.heap.size w w' := by
  have HO : Hid (∀ W, Calls Tryd.prog 29 #[tv (n : Int) (bs (tab n F))] W fun e w' => e = .returned (.bool true) ∧ Below W.heap.size W w') := fun W => iOk1 n F W hn
  have HPK : Hid (∀ W, Calls Tryd.prog 96 #[tv (n : Int) (bs (tab n F))] W fun e w' => ∃ g, e = .returned (pv n (nw n) g) ∧ W.heap.size ≤ g ∧ Wds w' g (nw n) (upto (2 ^ n) F) ∧ Below W.heap.size W w') := fun W => pack n F W hn
  have HCT : Hid (∀ W g, Wds W g (nw n) (upto (2 ^ n) F) → Calls Tryd.prog 97 #[pv n (nw n) g] W fun e w' => e = .returned (.int .i64 ((cnt F (2 ^ n) : Nat) : Int)) ∧ Below W.heap.size W w') := fun W g h => by
    have := count n g _ W hn h
    rwa [count_tab] at this
  have HSI : Hid (∀ W g, Calls Tryd.prog 98 #[pv n (nw n) g] W fun e w' => e = .returned (.int .i64 ((2 ^ n : Nat) : Int)) ∧ Below W.heap.size W w') := fun W g => size n g W hn
  have hp := (p12 hn).1
  have HK0 : Hid (cnt F (2 ^ n) = 0 → knw n F = 0) := fun h => by show knw n F = 0; unfold knw; rw [if_pos h]
  have HK1 : Hid (cnt F (2 ^ n) ≠ 0 → cnt F (2 ^ n) = 2 ^ n → knw n F = 1) := fun h k => by show knw n F = 1; unfold knw; rw [if_neg h, if_pos k]
  have HK2 : Hid (cnt F (2 ^ n) ≠ 0 → cnt F (2 ^ n) ≠ 2 ^ n → knw n F = -1) := fun h k => by show knw n F = -1; unfold knw; rw [if_neg h, if_neg k]
  generalize knw n F = KN at *
  generalize cnt F (2 ^ n) = C at *
  generalize bs (tab n F) = S at *
  generalize upto (2 ^ n) F = F at *
  generalize nw n = m at *
  generalize 2 ^ n = P at *
  have HL0 : Hid (Lay (w.alloc (.cells #[.int .i64 (n : Int), .string S] 26)) w.heap.size (.int .i64 (n : Int)) (.string S)) := Lay.made _ _ _ _
  have HA : Hid (Below w.heap.size w (w.alloc (.cells #[.int .i64 (n : Int), .string S] 26))) := (Below.refl _ _).alloc (Nat.le_refl _) _
  go_enter Tryd.func86, Tryd.ntmps86
  go_wp2_with fail
  refine (HO.out _).mono ?_
  rintro e w1 ⟨rfl, hb⟩
  have HB1 : Hid (Below w.heap.size w w1) := HA.out.trans (hb.mono HA.out.size)
  obtain ⟨x0, x1, _, _⟩ := HL0.out.below hb
  clear hb
  go_wp2_with fail
  refine (HPK.out _).mono ?_
  rintro e w2 ⟨g, rfl, hg, hw, hb⟩
  have HB2 : Hid (Below w.heap.size w (w2.alloc (.cells #[.int .i64 (n : Int), .slice (some ⟨g, 0, none⟩) m m] 113))) := (HB1.out.trans (hb.mono HB1.out.size)).alloc (by have := hb.size; have := HB1.out.size; omega) _
  have HW2 : Hid (Wds (w2.alloc (.cells #[.int .i64 (n : Int), .slice (some ⟨g, 0, none⟩) m m] 113)) g m F) := hw.kept (S := fun _ => False) ((Kept.refl _ _).alloc _) (fun h => h)
  clear hb x0 x1 hw
  go_wp2_with fail
  refine (HCT.out _ g HW2.out).mono ?_
  rintro e w3 ⟨rfl, hb⟩
  have HB3 : Hid (Below w.heap.size w w3) := HB2.out.trans (hb.mono HB2.out.size)
  have HL3 : Hid (Lay w3 w2.heap.size (.int .i64 (n : Int)) (.slice (some ⟨g, 0, none⟩) m m)) := (Lay.made w2 _ _ _).below hb
  clear hb
  by_cases h0 : C = 0
  · have hc0 : ((C : Int) == 0) = true := by rw [h0]; rfl
    have HK : Hid (KN = 0) := HK0.out h0
    clear h0
    go_wp2
    go_ret
    exact ⟨ret_int HK.out.symm, HB3.out⟩
  · have hc0 : ((C : Int) == 0) = false := beq_eq_false_iff_ne.2 (by omega)
    obtain ⟨q0, q1, _, _⟩ := HL3.out
    by_cases h1 : C = P
    · have hc1 : ((C : Int) == (P : Int)) = true := by rw [h1]; simp
      have HK : Hid (KN = 1) := HK1.out h0 h1
      clear h0 h1
      go_wp2_with (go_at_call 98; refine (HSI.out _ g).mono ?_; rintro e w4 ⟨rfl, hb⟩; have HB4 : Hid (Below w.heap.size w w4) := HB3.out.trans (hb.mono HB3.out.size); clear hb)
      go_ret
      exact ⟨ret_int HK.out.symm, HB4.out⟩
    · have hc1 : ((C : Int) == (P : Int)) = false := beq_eq_false_iff_ne.2 (by omega)
      have HK : Hid (KN = -1) := HK2.out h0 h1
      clear h0 h1
      go_wp2_with (go_at_call 98; refine (HSI.out _ g).mono ?_; rintro e w4 ⟨rfl, hb⟩; have HB4 : Hid (Below w.heap.size w w4) := HB3.out.trans (hb.mono HB3.out.size); clear hb)
      go_ret
      exact ⟨ret_int HK.out.symm, HB4.out⟩

end Go.Proofs.YtldeakifeifgdaaDoor.Te1

/- The program's functions over tables: half, at. -/
namespace Go.Proofs.YtldeakifeifgdaaDoor.Te3
open Go.RowKit
open Ta0 Ta1 Ta2 Tc2 Tc4 Tc5 Tc6 Tc7 Tc8 Tc10 Td1 Td2 Te1
open Nd0 (Kept Ints set_other set_same lt_of_cell)
open Ss0 (bs bs_size ret_str bs_ext)
open Ss1 (tl tl_length tl_get tl_take bs_tl tl_bs tl_inj eqb)
set_option linter.unusedVariables false

theorem or_bit {y x : Nat} (hy : y < 100000) (hx : x ≤ 1) : bits .or .i64 ((2 * y : Nat) : Int) (x : Int) = ((2 * y + x : Nat) : Int) := by
  rw [bor62 (by omega) (by omega)]
  have h := Nat.two_pow_add_eq_or_of_lt (i := 1) (b := x) (by omega) y
  rw [show (2 : Nat) ^ 1 * y = 2 * y by omega] at h
  rw [h]

set_option maxHeartbeats 2000000 in
theorem iPlaceOf (a : Option Addr) (l : List Int) (c : Nat) (w : World) (hl : l.length ≤ 12) (hI : Ints w a l) :
    Calls Tryd.prog 69 #[.slice a l.length c] w fun e w' => (((∀ i, i < l.length → bitB (l.getD i 0) = true) ∧ e = .returned (.tuple #[.int .i64 ((plc l l.length : Nat) : Int), .bool true])) ∨ ((∃ i, i < l.length ∧ bitB (l.getD i 0) = false) ∧ e = .returned (.tuple #[.int .i64 0, .bool false]))) ∧ w' = w := by
  have HI1 : Hid (Ints w a l) := hI
  clear hI
  go_enter Tryd.func69, Tryd.ntmps69
  go_wp2
  go_loop [4, 9] (fun p i => ∃ k : Nat, k ≤ l.length ∧ i = .int .i64 k ∧ p = .int .i64 ((plc l k : Nat) : Int) ∧ ∀ j, j < k → bitB (l.getD j 0) = true) (fun _ i => l.length - (intOf i).toNat)
  case atStart => exact ⟨0, Nat.zero_le _, rfl, rfl, fun j hj => by omega⟩
  case round =>
    obtain ⟨k, hk, rfl, rfl, hbt⟩ := hrel
    have hpl : plc l k < 4096 + 1 := by
      have h1 := plc_lt hbt
      have h2 := (p12 (n := k) (by omega)).2
      omega
    have HBT : Hid (∀ j, j < k → bitB (l.getD j 0) = true) := hbt
    clear hbt
    by_cases hlt : k < l.length
    · have hkz : (k : Int) < (l.length : Int) := by omega
      rcases HI1.out.2 with h0 | ⟨xb, xo, rfl, hc⟩
      · omega
      have p0 := hc k hlt
      clear hc
      have hgd : l.getD k 0 = l[k] := by simp [List.getD, hlt]
      have HPS : Hid (plc l (k + 1) = 2 * plc l k + (l.getD k 0).toNat) := rfl
      generalize plc l k = y at *
      rw [← hgd] at p0
      clear hgd
      obtain ⟨x, hx⟩ : ∃ x, x = l.getD k 0 := ⟨_, rfl⟩
      rw [← hx] at p0 HPS
      have HX : Hid (x = l.getD k 0) := hx
      clear hx
      have HIC : Hid (∀ W, Calls Tryd.prog 67 #[.int .i64 x] W fun e w' => e = .returned (.bool (bitB x)) ∧ w' = W) := fun W => iBitOk x W
      cases hB : bitB x
      · have HBd : Hid (∃ i, i < l.length ∧ bitB (l.getD i 0) = false) := ⟨k, hlt, by rw [← HX.out]; exact hB⟩
        rw [hB] at HIC
        clear hB
        go_wp2_with (go_at_call 67; refine (HIC.out _).mono ?_; rintro e w' ⟨rfl, rfl⟩)
        go_ret2
        exact ⟨.inr ⟨HBd.out, rfl⟩, rfl⟩
      · have hx2 := of_decide_eq_true hB
        rw [hB] at HIC
        have HBx : Hid (bitB x = true) := hB
        clear hB
        obtain ⟨b, rfl, hb⟩ : ∃ b : Nat, x = (b : Int) ∧ b ≤ 1 := ⟨x.toNat, by omega, by omega⟩
        clear hx2
        obtain ⟨z, hz⟩ : ∃ z : Nat, z = 2 * y + b := ⟨_, rfl⟩
        have ho := or_bit (y := y) (x := b) (by omega) hb
        rw [← hz] at ho
        have ho2 : bits .or .i64 (2 * (y : Int)) (b : Int) = (z : Int) := by rw [← ho]; push_cast; rfl
        have ho3 : bits .or .i64 ((y : Int) * 2) (b : Int) = (z : Int) := by rw [Int.mul_comm]; exact ho2
        have HZ : Hid (z = 2 * y + b) := hz
        clear hz ho
        go_wp2_with (go_at_call 67; refine (HIC.out _).mono ?_; rintro e w' ⟨rfl, rfl⟩)
        go_round
        case rel => exact ⟨k + 1, by omega, by go_num, by rw [HPS.out, Int.toNat_natCast, ← HZ.out], fun j hj => by
          by_cases e : j = k
          · rw [e, ← HX.out]; exact HBx.out
          · exact HBT.out j (by omega)⟩
        case measure => simp [intOf]; omega
    · have HK : Hid (k = l.length) := by show _ = _; omega
      go_wp2
      go_ret2
      exact ⟨.inl ⟨fun i hi => HBT.out i (by omega), by rw [HK.out]; rfl⟩, rfl⟩

end Go.Proofs.YtldeakifeifgdaaDoor.Te3
