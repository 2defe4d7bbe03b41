/- Small texts of mine, one behind the other. -/
import Derived.Laws.EntriesVeiled
import Derived.Deep.RegionHeld3
import Derived.Deep.CutBlock
import Derived.WalkMore
import Derived.Test.YtldeakifeifgdaaDoorPkQi
import Derived.Test.YtldeakifeifgdaaDoorPkQl
import Derived.Test.YtldeakifeifgdaaDoorPkQb
import Derived.Test.YtldeakifeifgdaaDoorPkQj
import Derived.Test.YtldeakifeifgdaaDoorPkQn
import Derived.Test.YtldeakifeifgdaaDoorPkQk
/- The program's forks: made, and the least value of a bit whose half is so. -/
namespace Go.Proofs.YtldeakifeifgdaaDoor.Dp1
open Go.RowKit
open Ta1 Tc4 Tc5 Dv0
open Nd0 (Kept set_other set_same lt_of_cell)
open Nd6 (Bools)
open Tc2 (ret_int)
set_option linter.unusedVariables false

/-- A ruled table's value. -/
abbrev rv (ra : Option Addr) (c n m g : Nat) : Value := .agg #[.slice ra n c, .int .i64 (n : Int), .slice (some ⟨g, 0, none⟩) m m]
/-- A ruled table lies in block b. -/
structure Rb (W : World) (b : Nat) (ra : Option Addr) (c n m g : Nat) : Prop where
  c0 : W.cell? ⟨b, 0, none⟩ = some (.slice ra n c)
  c1 : W.cell? ⟨b, 1, none⟩ = some (.int .i64 (n : Int))
  c2 : W.cell? ⟨b, 2, none⟩ = some (.slice (some ⟨g, 0, none⟩) m m)
theorem Rb.lt {W : World} {b : Nat} {ra : Option Addr} {c n m g : Nat} (h : Rb W b ra c n m g) : b < W.heap.size := World.block_lt_of_cell? _ _ h.c0
theorem Rb.kept {W W' : World} {b : Nat} {ra : Option Addr} {c n m g : Nat} (h : Rb W b ra c n m g) {S : Nat → Prop} (k : Kept S W W') (hs : ¬ S b) : Rb W' b ra c n m g :=
  ⟨by rw [k.cell (p := ⟨b, 0, none⟩) h.lt hs]; exact h.c0, by rw [k.cell (p := ⟨b, 1, none⟩) h.lt hs]; exact h.c1, by rw [k.cell (p := ⟨b, 2, none⟩) h.lt hs]; exact h.c2⟩
theorem Rb.below {W W' : World} {b : Nat} {ra : Option Addr} {c n m g : Nat} (h : Rb W b ra c n m g) (k : Below W.heap.size W W') : Rb W' b ra c n m g :=
  h.kept (S := fun _ => False) (Kept.ofBelow k) (fun h => h)
theorem Rb.alloc {W : World} {b : Nat} {ra : Option Addr} {c n m g : Nat} (h : Rb W b ra c n m g) (o : Obj) : Rb (W.alloc o) b ra c n m g := h.kept (S := fun _ => False) ((Kept.refl _ _).alloc _) (fun h => h)
theorem Rb.made (W : World) (ra : Option Addr) (c n m g T : Nat) : Rb (W.alloc (.cells #[.slice ra n c, .int .i64 (n : Int), .slice (some ⟨g, 0, none⟩) m m] T)) W.heap.size ra c n m g := ⟨by simp, by simp, by simp⟩
/-- A number lies in block b. -/
def Nb (W : World) (b : Nat) (x : Int) : Prop := W.cell? ⟨b, 0, none⟩ = some (.int .i64 x)
theorem Nb.below {W W' : World} {b : Nat} {x : Int} (h : Nb W b x) (k : Below W.heap.size W W') : Nb W' b x := by
  unfold Nb
  rw [k.cell (p := ⟨b, 0, none⟩) (World.block_lt_of_cell? _ _ h)]; exact h

theorem Nb.made (W : World) (x : Int) (T : Nat) : Nb (W.alloc (.cells #[.int .i64 x] T)) W.heap.size x := by unfold Nb; simp
theorem Nb.alloc {W : World} {b : Nat} {x : Int} (h : Nb W b x) (o : Obj) : Nb (W.alloc o) b x := h.below ((Below.refl _ _).alloc (Nat.le_refl _) _)

/-- The half of a fork: a function over what it holds. -/
abbrev fk (f b0 b1 b2 : Nat) : Value := .func (.func f) #[] #[.pointer (some ⟨b0, 0, none⟩), .pointer (some ⟨b1, 0, none⟩), .pointer (some ⟨b2, 0, none⟩)]

theorem iOne1 (b : Bool) (w : World) :
    Calls Tryd.prog 100 #[.bool b] w fun e w' => e = .returned (.int .i64 (b.toNat : Int)) ∧ w' = w := by
  cases b
  all_goals
    go_enter Tryd.func100, Tryd.ntmps100
    go_wp2
    go_ret
    exact ⟨rfl, rfl⟩


theorem every_valF (x y : Bool) : (fst x y 0 == -1) = (x && y) := by cases x <;> cases y <;> rfl
theorem some_valF (x y : Bool) : (fst x y 1 != -1) = (x || y) := by cases x <;> cases y <;> rfl

end Go.Proofs.YtldeakifeifgdaaDoor.Dp1

/- The program's verdict. -/
namespace Go.Proofs.YtldeakifeifgdaaDoor.Dp3
open Go.RowKit
open Ta1 Tc4 Tc5 Dv0 Dp1
open Nd0 (Kept set_other set_same lt_of_cell)
open Nd6 (Bools)
open Tc2 (ret_int)
set_option linter.unusedVariables false

end Go.Proofs.YtldeakifeifgdaaDoor.Dp3

/- The model's functions over tables: needs. -/
namespace Go.Proofs.YtldeakifeifgdaaDoor.Td5
open Go.RowKit
open Ta0 Ta1 Ta2 Tc2 Tc5 Td1 Td2 Ap0
open Nd0 (Kept Ints WInts set_other set_same lt_of_cell)
open Ss0 (bs bs_size ret_str bs_ext)
open Ss1 (tl tl_length tl_get tl_take bs_tl tl_bs tl_inj eqb)
set_option linter.unusedVariables false

theorem bne48 {a b : Bool} (h : a ≠ b) : ((48 + (a.toNat : Int)) != (48 + (b.toNat : Int))) = true := by
  cases a <;> cases b <;> first | rfl | exact absurd rfl h

/-- What stands while numbers are collected. -/
structure ON (w : World) (N : Int) (S : ByteArray) (v : Value) (l : List Int) (W : World) : Prop where
  lay : Lay W w.heap.size (.int .i64 N) (.string S)
  own : Ows W (w.heap.size + 1) v l
  siz : w.heap.size + 1 ≤ W.heap.size
  bel : Below w.heap.size w W
theorem ON.next {w W W' : World} {N : Int} {S : ByteArray} {v v' : Value} {l l' : List Int} (h : ON w N S v l W) (hk : Kept (fun k => v.ownBlock = some k) W W') (ho : Ows W' (w.heap.size + 1) v' l') : ON w N S v' l' W' :=
  ⟨h.lay.kept hk (fun e => by have := (h.own.lt _ e).1; omega), ho, by have := hk.size; have := h.siz; omega, h.bel.trans (hk.below (fun b hb => by have := (h.own.lt _ hb).1; omega) h.bel.size)⟩
theorem ON.below {w W W' : World} {N : Int} {S : ByteArray} {v : Value} {l : List Int} (h : ON w N S v l W) (k : Below W.heap.size W W') : ON w N S v l W' :=
  ⟨h.lay.below k, h.own.kept (S := fun _ => False) (Kept.ofBelow k) (fun _ _ h => h), by have := k.size; have := h.siz; omega, h.bel.trans (k.mono h.bel.size)⟩
theorem ON.drewN {w W : World} {N : Int} {S : ByteArray} {v : Value} {l : List Int} (h : ON w N S v l W) (n : Nat) : ON w N S v l (W.drewN n) := h.below (below_drewN (Below.refl _ _) n)
theorem ON.start (w : World) (N : Int) (S : ByteArray) : ON w N S (.slice (some ⟨w.heap.size + 1, 0, none⟩) 0 0) [] ((w.alloc (.cells #[.int .i64 N, .string S] 26)).alloc (.cells #[] 3)) := by
  refine ⟨(Lay.made _ _ _ _).alloc _, ?_, by simp, ((Below.refl _ _).alloc (Nat.le_refl _) _).alloc (by simp) _⟩
  have := Ows.lit (w.alloc (.cells #[.int .i64 N, .string S] 26)) (w.heap.size + 1) (by simp)
  simpa using this
theorem ON.wints {w W : World} {N : Int} {S : ByteArray} {v : Value} {l : List Int} (h : ON w N S v l W) : ∃ a c, v = .slice a l.length c ∧ WInts W w.heap.size a l := by
  obtain ⟨a, c, hv, hw⟩ := h.own.form
  refine ⟨a, c, hv, hw.1, ?_⟩
  rcases hw.2 with h0 | ⟨b, o, ha, hb, hc⟩
  · exact .inl h0
  · exact .inr ⟨b, o, ha, by omega, hc⟩

end Go.Proofs.YtldeakifeifgdaaDoor.Td5

/- The program's functions over tables: needs. -/
namespace Go.Proofs.YtldeakifeifgdaaDoor.Te4
open Go.RowKit
open Ta0 Ta1 Ta2 Tc2 Tc4 Tc5 Tc6 Tc7 Tc8 Td1 Td2 Td5 Te1 Ap0
open Nd0 (Kept Ints WInts set_other set_same lt_of_cell)
open Ss0 (bs bs_size ret_str bs_ext)
open Ss1 (tl tl_length tl_get tl_take bs_tl tl_bs tl_inj eqb)
set_option linter.unusedVariables false

theorem nd_upto (n : Nat) (F : Nat → Bool) (b : Nat) (hb : b < n) : ((List.range (2 ^ n)).any fun p => upto (2 ^ n) F p != upto (2 ^ n) F (p ^^^ 2 ^ (n - 1 - b))) = ndB n F b := by
  unfold ndB
  rw [Bool.eq_iff_iff, List.any_eq_true, List.any_eq_true]
  have e : ∀ p, p < 2 ^ n → (upto (2 ^ n) F p != upto (2 ^ n) F (p ^^^ 2 ^ (n - 1 - b))) = (F p != F (p ^^^ 2 ^ (n - 1 - b))) := fun p hp => by
    have h2 : p ^^^ 2 ^ (n - 1 - b) < 2 ^ n := Nat.xor_lt_two_pow hp (Nat.pow_lt_pow_right (by omega) (by omega))
    simp [upto, hp, h2]
  constructor
  · rintro ⟨p, hp, h⟩
    exact ⟨p, hp, by rw [e p (List.mem_range.1 hp)] at h; exact h⟩
  · rintro ⟨p, hp, h⟩
    exact ⟨p, hp, by rw [e p (List.mem_range.1 hp)]; exact h⟩

/-- What stands while the program collects the bits that a table needs. -/
structure OP (w : World) (n m g q : Nat) (S : ByteArray) (F : Nat → Bool) (v : Value) (l : List Int) (W : World) : Prop where
  on : ON w (n : Int) S v l W
  pk : Lay W q (.int .i64 (n : Int)) (.slice (some ⟨g, 0, none⟩) m m)
  wds : Wds W g m F
  sep : ∀ i, v.ownBlock = some i → i ≠ g ∧ i ≠ q
theorem OP.below {w W W' : World} {n m g q : Nat} {S : ByteArray} {F : Nat → Bool} {v : Value} {l : List Int} (h : OP w n m g q S F v l W) (k : Below W.heap.size W W') : OP w n m g q S F v l W' :=
  ⟨h.on.below k, h.pk.below k, h.wds.below k, h.sep⟩
theorem OP.next {w W W' : World} {n m g q g5 len cp : Nat} {S : ByteArray} {F : Nat → Bool} {v : Value} {l l' : List Int} (h : OP w n m g q S F v l W) (hm : 1 ≤ m) (hk : Kept (fun k => v.ownBlock = some k) W W') (hg : v.ownBlock = some g5 ∨ W.heap.size ≤ g5) (ho : Ows W' (w.heap.size + 1) (.slice (some ⟨g5, 0, none⟩) len cp) l') : OP w n m g q S F (.slice (some ⟨g5, 0, none⟩) len cp) l' W' :=
  ⟨h.on.next hk ho, h.pk.kept hk (fun e => (h.sep _ e).2 rfl), h.wds.kept hk (fun e => (h.sep _ e).1 rfl), fun i hi => by
    have hi' : g5 = i := by simpa [Value.ownBlock] using hi
    subst hi'
    rcases hg with e | e
    · exact h.sep _ e
    · have h1 := h.wds.lt hm
      have h2 := h.pk.lt
      omega⟩

end Go.Proofs.YtldeakifeifgdaaDoor.Te4

/- The program's ruledBy. -/
namespace Go.Proofs.YtldeakifeifgdaaDoor.Dp4
open Go.RowKit
open Ta0 Ta1 Tc2 Tc4 Tc5 Dv0 Dp1 Dp3 Te1
open Nd0 (Kept set_other set_same lt_of_cell)
open Nd6 (Bools)
open Ss0 (bs bs_size)
open Ss1 (tl)
set_option linter.unusedVariables false

/-- A block of three cells. -/
structure L3 (W : World) (b : Nat) (x y z : Value) : Prop where
  c0 : W.cell? ⟨b, 0, none⟩ = some x
  c1 : W.cell? ⟨b, 1, none⟩ = some y
  c2 : W.cell? ⟨b, 2, none⟩ = some z
  f0 : W.frozen? ⟨b, 0, none⟩ = false
  f1 : W.frozen? ⟨b, 1, none⟩ = false
  f2 : W.frozen? ⟨b, 2, none⟩ = false
theorem L3.lt {W : World} {b : Nat} {x y z : Value} (h : L3 W b x y z) : b < W.heap.size := World.block_lt_of_cell? _ _ h.c0
theorem L3.kept {W W' : World} {b : Nat} {x y z : Value} (h : L3 W b x y z) {S : Nat → Prop} (k : Kept S W W') (hs : ¬ S b) : L3 W' b x y z :=
  ⟨by rw [k.cell (p := ⟨b, 0, none⟩) h.lt hs]; exact h.c0, by rw [k.cell (p := ⟨b, 1, none⟩) h.lt hs]; exact h.c1, by rw [k.cell (p := ⟨b, 2, none⟩) h.lt hs]; exact h.c2, by rw [k.frozen (p := ⟨b, 0, none⟩) h.lt hs]; exact h.f0, by rw [k.frozen (p := ⟨b, 1, none⟩) h.lt hs]; exact h.f1, by rw [k.frozen (p := ⟨b, 2, none⟩) h.lt hs]; exact h.f2⟩
theorem L3.below {W W' : World} {b : Nat} {x y z : Value} (h : L3 W b x y z) (k : Below W.heap.size W W') : L3 W' b x y z :=
  h.kept (S := fun _ => False) (Kept.ofBelow k) (fun h => h)
theorem L3.made (W : World) (x y z : Value) (T : Nat) : L3 (W.alloc (.cells #[x, y, z] T)) W.heap.size x y z := ⟨by simp, by simp, by simp, by simp, by simp, by simp⟩
theorem fin3 {w W : World} {b : Nat} {x y z : Value} (h : L3 W b x y z) (hB : Below w.heap.size w W) (hb : w.heap.size ≤ b) (u v t : Value) :
    ∃ W', W' = ((W.setCell ⟨b, 0, none⟩ u).setCell ⟨b, 1, none⟩ v).setCell ⟨b, 2, none⟩ t ∧ W'.cell? ⟨b, 0, none⟩ = some u ∧ W'.cell? ⟨b, 1, none⟩ = some v ∧ W'.cell? ⟨b, 2, none⟩ = some t ∧ Below w.heap.size w W' ∧ Kept (fun i => i = b) W W' := by
  have HK : Kept (fun i => i = b) W (((W.setCell ⟨b, 0, none⟩ u).setCell ⟨b, 1, none⟩ v).setCell ⟨b, 2, none⟩ t) := kset (S := fun i => i = b) (kset (S := fun i => i = b) (kset (S := fun i => i = b) (Kept.refl (fun i => i = b) W) rfl _) rfl _) rfl _
  refine ⟨_, rfl, ?_, ?_, ?_, hB.trans (HK.below (B := w.heap.size) (fun i hi => by omega) hB.size), HK⟩
  · rw [set_other (by simp), set_other (by simp)]; exact set_same h.c0
  · rw [set_other (by simp)]; exact set_same (by rw [set_other (by simp)]; exact h.c1)
  · exact set_same (by rw [set_other (by simp), set_other (by simp)]; exact h.c2)

/-- The zero ruled table. -/
abbrev rv0 : Value := .agg #[.slice none 0 0, .int .i64 0, .slice none 0 0]

theorem dcAt_upto {row : List Bool} {n : Nat} (F : Nat → Bool) (h : row.length = n) {k p : Nat} (hk : k ≤ n) (hp : p < 2 ^ k) : dcAt row (upto (2 ^ n) F) k p = dcAt row F k p := by
  subst h
  exact dcAt_ext row (fun q hq => by simp [upto, hq]) hk hp

end Go.Proofs.YtldeakifeifgdaaDoor.Dp4

/- The program's Choose and Idle. -/
namespace Go.Proofs.YtldeakifeifgdaaDoor.Dp5
open Go.RowKit
open Ta0 Ta1 Ta2 Ta3 Tc2 Tc4 Tc5 Tc6 Tc7 Dv0 Dp1 Dp3 Dp4 Te1 Te4 Ap0 Td5 De1
open Nd0 (Kept Ints WInts set_other set_same lt_of_cell)
open Nd6 (Bools)
open Ss0 (bs bs_size)
open Ss1 (tl)
set_option linter.unusedVariables false

/-- What Choose tells. -/
def chV (row : List Bool) (n : Nat) (F : Nat → Bool) : Int := fst (De0.dc (row.drop 1) (hb (n - 1) 0 F)) (De0.dc (row.drop 1) (hb (n - 1) 1 F)) ((De0.dc row F).toNat : Int)
theorem dcAt_1 {row : List Bool} {n : Nat} (F : Nat → Bool) (h : row.length = n) (hn : 1 ≤ n) (b : Nat) : dcAt row F 1 b = De0.dc (row.drop 1) (hb (n - 1) b F) := by
  subst h
  rfl

end Go.Proofs.YtldeakifeifgdaaDoor.Dp5

/- The model's verdict: a flag more. -/
namespace Go.Proofs.YtldeakifeifgdaaDoor.Dm2
open Go.RowKit
open Ta0 Ta1 Ta2 Ta3 Tc2 Tc5 Td1 Td2 Td4 De0 Dv0 Dm1
open Nd0 (Kept set_other set_same lt_of_cell)
open Nd6 (Bools)
open Ss0 (bs bs_size)
open Ss1 (tl)
set_option linter.unusedVariables false

set_option maxRecDepth 100000 in
set_option maxHeartbeats 8000000 in
theorem md_cons {q : Bool} {r : List Bool} (hr : r.length ≤ 11) (ih : MD r) : MD (q :: r) := by
  intro F w a c hB hc
  rw [List.length_cons] at hc ⊢
  obtain ⟨b, o, rfl, p0, t, ht, hT⟩ := bools_tail hB hc
  obtain ⟨c1, hc1⟩ : ∃ c1, c1 = c - 1 := ⟨_, rfl⟩
  have HH0 : Hid (∀ W, Calls Tryd.prog 63 #[tv ((r.length : Int) + 1) (bs (tab (r.length + 1) F)), .int .i64 0] W fun e w' => e = .returned (.tuple #[tv (r.length : Int) (bs (tab r.length (hb r.length 0 F))), .bool true]) ∧ Below W.heap.size W w') := fun W => by
    have := sHalf r.length 0 F W (by omega) (by omega)
    rw [show ((r.length + 1 : Nat) : Int) = (r.length : Int) + 1 by omega] at this
    exact this
  have HH1 : Hid (∀ W, Calls Tryd.prog 63 #[tv ((r.length : Int) + 1) (bs (tab (r.length + 1) F)), .int .i64 1] W fun e w' => e = .returned (.tuple #[tv (r.length : Int) (bs (tab r.length (hb r.length 1 F))), .bool true]) ∧ Below W.heap.size W w') := fun W => by
    have := sHalf r.length 1 F W (by omega) (by omega)
    rw [show ((r.length + 1 : Nat) : Int) = (r.length : Int) + 1 by omega] at this
    exact this
  have HI : Hid (∀ (W : World) (T : ByteArray) (z : Bool), ((T = bs (tab r.length (hb r.length 0 F)) ∧ z = dc r (hb r.length 0 F)) ∨ (T = bs (tab r.length (hb r.length 1 F)) ∧ z = dc r (hb r.length 1 F))) → Below w.heap.size w W → Calls Tryd.prog 27 #[.slice (some ⟨b, t, none⟩) r.length c1, tv (r.length : Int) T] W fun e w' => e = .returned (.int .i64 (z.toNat : Int)) ∧ Below W.heap.size W w') := fun W T z h hW => by
    rcases h with ⟨rfl, rfl⟩ | ⟨rfl, rfl⟩
    · exact ih _ W _ _ (hT.below hW) (by omega)
    · exact ih _ W _ _ (hT.below hW) (by omega)
  have hnn : (((r.length + 1 : Nat) : Int) == 0) = false := beq_eq_false_iff_ne.2 (by omega)
  have HT0 : Hid (t = if c = 1 then o else o + 1) := ht
  have hcn : r.length + 1 ≤ c := hc
  have hcz : (r.length : Int) + 1 ≤ (c : Int) := by omega
  have hm : c ≤ c := Nat.le_refl _
  rw [show ((r.length + 1 : Nat) : Int) = (r.length : Int) + 1 by omega] at *
  obtain ⟨r0, hr0⟩ : ∃ r0, r0 = dc r (hb r.length 0 F) := ⟨_, rfl⟩
  obtain ⟨r1, hr1⟩ : ∃ r1, r1 = dc r (hb r.length 1 F) := ⟨_, rfl⟩
  have HR0 : Hid (dc r (hb r.length 0 F) = r0) := hr0.symm
  have HR1 : Hid (dc r (hb r.length 1 F) = r1) := hr1.symm
  rw [← hr0, ← hr1] at HI
  clear hr0 hr1 hB hT ih hc ht hm
  generalize bs (tab r.length (hb r.length 0 F)) = S0 at *
  generalize bs (tab r.length (hb r.length 1 F)) = S1 at *
  generalize bs (tab (r.length + 1) F) = S at *
  have hn0 : (0 : Int) ≤ (r.length : Int) := by omega
  rcases (by by_cases e : c = 1; exact Or.inl ⟨e, by rw [HT0.out, if_pos e], by omega⟩; exact Or.inr ⟨e, by rw [HT0.out, if_neg e], hc1⟩ : (c = 1 ∧ o = t ∧ c1 = 0) ∨ (¬ c = 1 ∧ o + 1 = t ∧ c1 = c - 1)) with ⟨rfl, rfl, rfl⟩ | ⟨hce, rfl, rfl⟩
  · clear HT0 hc1
    cases q
    · have HD : Hid (dc (false :: r) F = (r0 || r1)) := by
        show _ = _
        rw [dc, HR0.out, HR1.out]
        rfl
      have hbit : bits .or .i64 (r0.toNat : Int) (r1.toNat : Int) = (((r0 || r1).toNat : Nat) : Int) := by cases r0 <;> cases r1 <;> rfl
      generalize r.length = n at *
      have hb1 : (1 : Int) ≤ (n : Int) + 1 := by omega
      have HI0 : Hid (∀ W, Below w.heap.size w W → Calls Tryd.prog 27 #[.slice (some ⟨b, o, none⟩) 0 0, tv (n : Int) S0] W fun e w' => e = .returned (.int .i64 (r0.toNat : Int)) ∧ Below W.heap.size W w') := fun W h => by
        have h1 := HI.out W S0 r0 (Or.inl ⟨rfl, rfl⟩) h
        have e : n = 0 := by omega
        rw [e] at h1 ⊢
        exact h1
      have HI1 : Hid (∀ W, Below w.heap.size w W → Calls Tryd.prog 27 #[.slice (some ⟨b, o, none⟩) 0 0, tv (n : Int) S1] W fun e w' => e = .returned (.int .i64 (r1.toNat : Int)) ∧ Below W.heap.size W w') := fun W h => by
        have h1 := HI.out W S1 r1 (Or.inr ⟨rfl, rfl⟩) h
        have e : n = 0 := by omega
        rw [e] at h1 ⊢
        exact h1
      clear HI
      obtain ⟨W0, hW0⟩ : ∃ W0, W0 = w.alloc (.cells #[.int .i64 ((n : Int) + 1), .string S] 26) := ⟨_, rfl⟩
      have HX0 : Hid (Lay W0 w.heap.size (.int .i64 ((n : Int) + 1)) (.string S)) := by rw [hW0]; exact Lay.made _ _ _ _
      have HB0 : Hid (Below w.heap.size w W0) := by rw [hW0]; exact (Below.refl _ _).alloc (Nat.le_refl _) _
      have HW0 : Hid (w.alloc (.cells #[.int .i64 ((n : Int) + 1), .string S] 26) = W0) := hW0.symm
      clear hW0
      rw [HD.out]
      clear HD HR0 HR1
      go_enter Tryd.func27, Tryd.ntmps27
      go_upto_region 1 with fail
      rw [HW0.out]
      clear HW0
      obtain ⟨x0, x1, _, _⟩ := HX0.out
      go_wp2_with fail
      refine (HH0.out _).mono ?_
      rintro e w1 ⟨rfl, hb⟩
      have HB1 : Hid (Below w.heap.size w w1) := HB0.out.trans (hb.mono HB0.out.size)
      have HX1 : Hid (Lay w1 w.heap.size (.int .i64 ((n : Int) + 1)) (.string S)) := HX0.out.below hb
      clear hb x0 x1 HX0 HB0
      obtain ⟨W1, hW1⟩ : ∃ W1, W1 = w1.alloc (.cells #[.int .i64 (n : Int), .string S0] 26) := ⟨_, rfl⟩
      have HX2 : Hid (Lay W1 w.heap.size (.int .i64 ((n : Int) + 1)) (.string S)) := by rw [hW1]; exact HX1.out.alloc _
      have HY2 : Hid (Lay W1 w1.heap.size (.int .i64 (n : Int)) (.string S0)) := by rw [hW1]; exact Lay.made _ _ _ _
      have HB2 : Hid (Below w.heap.size w W1) := by rw [hW1]; exact HB1.out.alloc HB1.out.size _
      have HW1 : Hid (w1.alloc (.cells #[.int .i64 (n : Int), .string S0] 26) = W1) := hW1.symm
      clear hW1 HX1 HB1
      go_upto_region 4 with fail
      rw [HW1.out]
      generalize hq1 : w1.heap.size = q1 at *
      clear hq1 HW1
      obtain ⟨x0, x1, _, _⟩ := HX2.out
      go_wp2_with fail
      refine (HH1.out _).mono ?_
      rintro e w2 ⟨rfl, hb⟩
      have HB3 : Hid (Below w.heap.size w w2) := HB2.out.trans (hb.mono HB2.out.size)
      have HY3 : Hid (Lay w2 q1 (.int .i64 (n : Int)) (.string S0)) := HY2.out.below hb
      clear hb x0 x1 HX2 HB2 HY2
      obtain ⟨W2, hW2⟩ : ∃ W2, W2 = w2.alloc (.cells #[.int .i64 (n : Int), .string S1] 26) := ⟨_, rfl⟩
      have HY4 : Hid (Lay W2 q1 (.int .i64 (n : Int)) (.string S0)) := by rw [hW2]; exact HY3.out.alloc _
      have HZ4 : Hid (Lay W2 w2.heap.size (.int .i64 (n : Int)) (.string S1)) := by rw [hW2]; exact Lay.made _ _ _ _
      have HB4 : Hid (Below w.heap.size w W2) := by rw [hW2]; exact HB3.out.alloc HB3.out.size _
      have HW2 : Hid (w2.alloc (.cells #[.int .i64 (n : Int), .string S1] 26) = W2) := hW2.symm
      clear hW2 HY3 HB3
      go_upto_region 5 with fail
      rw [HW2.out]
      generalize hq2 : w2.heap.size = q2 at *
      clear hq2 HW2
      have DY : Lay W2.drew q1 (.int .i64 (n : Int)) (.string S0) := HY4.out.kept (S := fun _ => False) (Kept.refl _ _).drew (fun h => h)
      have DZ : Lay W2.drew q2 (.int .i64 (n : Int)) (.string S1) := HZ4.out.kept (S := fun _ => False) (Kept.refl _ _).drew (fun h => h)
      have HBD : Hid (Below w.heap.size w W2.drew) := HB4.out.drew
      have p1 : W2.drew.cell? ⟨b, o, none⟩ = some (.bool false) := by rw [HBD.out.cell (lt_of_cell p0)]; exact p0
      go_region_held3 (fun w' => w'.cell? ⟨q1, 0, none⟩ = some (.int .i64 (n : Int)) ∧ w'.cell? ⟨q1, 1, none⟩ = some (.string S0) ∧ w'.cell? ⟨q2, 0, none⟩ = some (.int .i64 (n : Int)) ∧ w'.cell? ⟨q2, 1, none⟩ = some (.string S1)) ((first | exact ⟨EY.c0, EY.c1, EZ.c0, EZ.c1⟩ | exact ⟨DY.c0, DY.c1, DZ.c0, DZ.c1⟩)) ((go_at_call 27; (first | with_reducible refine (HI0.out _ HBE.out).mono ?_ | with_reducible refine (HI0.out _ HBD.out).mono ?_ | with_reducible refine (HI1.out _ HBE.out).mono ?_ | with_reducible refine (HI1.out _ HBD.out).mono ?_); rintro e w6 ⟨rfl, hb6⟩; have EY : Lay w6 q1 (.int .i64 (n : Int)) (.string S0) := (by first | exact EY.below hb6 | exact DY.below hb6); have EZ : Lay w6 q2 (.int .i64 (n : Int)) (.string S1) := (by first | exact EZ.below hb6 | exact DZ.below hb6); have HBE : Hid (Below w.heap.size w w6) := (by first | exact HBE.out.trans (hb6.mono HBE.out.size) | exact HBD.out.trans (hb6.mono HBD.out.size)); clear hb6))
      all_goals
        have p2 : w6.cell? ⟨b, o, none⟩ = some (.bool false) := by rw [HBE.out.cell (lt_of_cell p0)]; exact p0
        go_wp2
        go_ret
        exact ⟨ret_int (by first | exact hbit | rfl), HBE.out⟩
    · have HD : Hid (dc (true :: r) F = (r0 && r1)) := by
        show _ = _
        rw [dc, HR0.out, HR1.out]
        rfl
      have hbit : bits .and .i64 (r0.toNat : Int) (r1.toNat : Int) = (((r0 && r1).toNat : Nat) : Int) := by cases r0 <;> cases r1 <;> rfl
      generalize r.length = n at *
      have hb1 : (1 : Int) ≤ (n : Int) + 1 := by omega
      have HI0 : Hid (∀ W, Below w.heap.size w W → Calls Tryd.prog 27 #[.slice (some ⟨b, o, none⟩) 0 0, tv (n : Int) S0] W fun e w' => e = .returned (.int .i64 (r0.toNat : Int)) ∧ Below W.heap.size W w') := fun W h => by
        have h1 := HI.out W S0 r0 (Or.inl ⟨rfl, rfl⟩) h
        have e : n = 0 := by omega
        rw [e] at h1 ⊢
        exact h1
      have HI1 : Hid (∀ W, Below w.heap.size w W → Calls Tryd.prog 27 #[.slice (some ⟨b, o, none⟩) 0 0, tv (n : Int) S1] W fun e w' => e = .returned (.int .i64 (r1.toNat : Int)) ∧ Below W.heap.size W w') := fun W h => by
        have h1 := HI.out W S1 r1 (Or.inr ⟨rfl, rfl⟩) h
        have e : n = 0 := by omega
        rw [e] at h1 ⊢
        exact h1
      clear HI
      obtain ⟨W0, hW0⟩ : ∃ W0, W0 = w.alloc (.cells #[.int .i64 ((n : Int) + 1), .string S] 26) := ⟨_, rfl⟩
      have HX0 : Hid (Lay W0 w.heap.size (.int .i64 ((n : Int) + 1)) (.string S)) := by rw [hW0]; exact Lay.made _ _ _ _
      have HB0 : Hid (Below w.heap.size w W0) := by rw [hW0]; exact (Below.refl _ _).alloc (Nat.le_refl _) _
      have HW0 : Hid (w.alloc (.cells #[.int .i64 ((n : Int) + 1), .string S] 26) = W0) := hW0.symm
      clear hW0
      rw [HD.out]
      clear HD HR0 HR1
      go_enter Tryd.func27, Tryd.ntmps27
      go_upto_region 1 with fail
      rw [HW0.out]
      clear HW0
      obtain ⟨x0, x1, _, _⟩ := HX0.out
      go_wp2_with fail
      refine (HH0.out _).mono ?_
      rintro e w1 ⟨rfl, hb⟩
      have HB1 : Hid (Below w.heap.size w w1) := HB0.out.trans (hb.mono HB0.out.size)
      have HX1 : Hid (Lay w1 w.heap.size (.int .i64 ((n : Int) + 1)) (.string S)) := HX0.out.below hb
      clear hb x0 x1 HX0 HB0
      obtain ⟨W1, hW1⟩ : ∃ W1, W1 = w1.alloc (.cells #[.int .i64 (n : Int), .string S0] 26) := ⟨_, rfl⟩
      have HX2 : Hid (Lay W1 w.heap.size (.int .i64 ((n : Int) + 1)) (.string S)) := by rw [hW1]; exact HX1.out.alloc _
      have HY2 : Hid (Lay W1 w1.heap.size (.int .i64 (n : Int)) (.string S0)) := by rw [hW1]; exact Lay.made _ _ _ _
      have HB2 : Hid (Below w.heap.size w W1) := by rw [hW1]; exact HB1.out.alloc HB1.out.size _
      have HW1 : Hid (w1.alloc (.cells #[.int .i64 (n : Int), .string S0] 26) = W1) := hW1.symm
      clear hW1 HX1 HB1
      go_upto_region 4 with fail
      rw [HW1.out]
      generalize hq1 : w1.heap.size = q1 at *
      clear hq1 HW1
      obtain ⟨x0, x1, _, _⟩ := HX2.out
      go_wp2_with fail
      refine (HH1.out _).mono ?_
      rintro e w2 ⟨rfl, hb⟩
      have HB3 : Hid (Below w.heap.size w w2) := HB2.out.trans (hb.mono HB2.out.size)
      have HY3 : Hid (Lay w2 q1 (.int .i64 (n : Int)) (.string S0)) := HY2.out.below hb
      clear hb x0 x1 HX2 HB2 HY2
      obtain ⟨W2, hW2⟩ : ∃ W2, W2 = w2.alloc (.cells #[.int .i64 (n : Int), .string S1] 26) := ⟨_, rfl⟩
      have HY4 : Hid (Lay W2 q1 (.int .i64 (n : Int)) (.string S0)) := by rw [hW2]; exact HY3.out.alloc _
      have HZ4 : Hid (Lay W2 w2.heap.size (.int .i64 (n : Int)) (.string S1)) := by rw [hW2]; exact Lay.made _ _ _ _
      have HB4 : Hid (Below w.heap.size w W2) := by rw [hW2]; exact HB3.out.alloc HB3.out.size _
      have HW2 : Hid (w2.alloc (.cells #[.int .i64 (n : Int), .string S1] 26) = W2) := hW2.symm
      clear hW2 HY3 HB3
      go_upto_region 5 with fail
      rw [HW2.out]
      generalize hq2 : w2.heap.size = q2 at *
      clear hq2 HW2
      have DY : Lay W2.drew q1 (.int .i64 (n : Int)) (.string S0) := HY4.out.kept (S := fun _ => False) (Kept.refl _ _).drew (fun h => h)
      have DZ : Lay W2.drew q2 (.int .i64 (n : Int)) (.string S1) := HZ4.out.kept (S := fun _ => False) (Kept.refl _ _).drew (fun h => h)
      have HBD : Hid (Below w.heap.size w W2.drew) := HB4.out.drew
      have p1 : W2.drew.cell? ⟨b, o, none⟩ = some (.bool true) := by rw [HBD.out.cell (lt_of_cell p0)]; exact p0
      go_region_held3 (fun w' => w'.cell? ⟨q1, 0, none⟩ = some (.int .i64 (n : Int)) ∧ w'.cell? ⟨q1, 1, none⟩ = some (.string S0) ∧ w'.cell? ⟨q2, 0, none⟩ = some (.int .i64 (n : Int)) ∧ w'.cell? ⟨q2, 1, none⟩ = some (.string S1)) ((first | exact ⟨EY.c0, EY.c1, EZ.c0, EZ.c1⟩ | exact ⟨DY.c0, DY.c1, DZ.c0, DZ.c1⟩)) ((go_at_call 27; (first | with_reducible refine (HI0.out _ HBE.out).mono ?_ | with_reducible refine (HI0.out _ HBD.out).mono ?_ | with_reducible refine (HI1.out _ HBE.out).mono ?_ | with_reducible refine (HI1.out _ HBD.out).mono ?_); rintro e w6 ⟨rfl, hb6⟩; have EY : Lay w6 q1 (.int .i64 (n : Int)) (.string S0) := (by first | exact EY.below hb6 | exact DY.below hb6); have EZ : Lay w6 q2 (.int .i64 (n : Int)) (.string S1) := (by first | exact EZ.below hb6 | exact DZ.below hb6); have HBE : Hid (Below w.heap.size w w6) := (by first | exact HBE.out.trans (hb6.mono HBE.out.size) | exact HBD.out.trans (hb6.mono HBD.out.size)); clear hb6))
      all_goals
        have p2 : w6.cell? ⟨b, o, none⟩ = some (.bool true) := by rw [HBE.out.cell (lt_of_cell p0)]; exact p0
        go_wp2
        go_ret
        exact ⟨ret_int (by first | exact hbit | rfl), HBE.out⟩
  · clear HT0 hc1
    cases q
    · have HD : Hid (dc (false :: r) F = (r0 || r1)) := by
        show _ = _
        rw [dc, HR0.out, HR1.out]
        rfl
      have hbit : bits .or .i64 (r0.toNat : Int) (r1.toNat : Int) = (((r0 || r1).toNat : Nat) : Int) := by cases r0 <;> cases r1 <;> rfl
      generalize r.length = n at *
      have hb1 : (1 : Int) ≤ (n : Int) + 1 := by omega
      have HI0 : Hid _ := fun W => HI.out W S0 r0 (Or.inl ⟨rfl, rfl⟩)
      have HI1 : Hid _ := fun W => HI.out W S1 r1 (Or.inr ⟨rfl, rfl⟩)
      clear HI
      obtain ⟨W0, hW0⟩ : ∃ W0, W0 = w.alloc (.cells #[.int .i64 ((n : Int) + 1), .string S] 26) := ⟨_, rfl⟩
      have HX0 : Hid (Lay W0 w.heap.size (.int .i64 ((n : Int) + 1)) (.string S)) := by rw [hW0]; exact Lay.made _ _ _ _
      have HB0 : Hid (Below w.heap.size w W0) := by rw [hW0]; exact (Below.refl _ _).alloc (Nat.le_refl _) _
      have HW0 : Hid (w.alloc (.cells #[.int .i64 ((n : Int) + 1), .string S] 26) = W0) := hW0.symm
      clear hW0
      rw [HD.out]
      clear HD HR0 HR1
      go_enter Tryd.func27, Tryd.ntmps27
      go_upto_region 1 with fail
      rw [HW0.out]
      clear HW0
      obtain ⟨x0, x1, _, _⟩ := HX0.out
      go_wp2_with fail
      refine (HH0.out _).mono ?_
      rintro e w1 ⟨rfl, hb⟩
      have HB1 : Hid (Below w.heap.size w w1) := HB0.out.trans (hb.mono HB0.out.size)
      have HX1 : Hid (Lay w1 w.heap.size (.int .i64 ((n : Int) + 1)) (.string S)) := HX0.out.below hb
      clear hb x0 x1 HX0 HB0
      obtain ⟨W1, hW1⟩ : ∃ W1, W1 = w1.alloc (.cells #[.int .i64 (n : Int), .string S0] 26) := ⟨_, rfl⟩
      have HX2 : Hid (Lay W1 w.heap.size (.int .i64 ((n : Int) + 1)) (.string S)) := by rw [hW1]; exact HX1.out.alloc _
      have HY2 : Hid (Lay W1 w1.heap.size (.int .i64 (n : Int)) (.string S0)) := by rw [hW1]; exact Lay.made _ _ _ _
      have HB2 : Hid (Below w.heap.size w W1) := by rw [hW1]; exact HB1.out.alloc HB1.out.size _
      have HW1 : Hid (w1.alloc (.cells #[.int .i64 (n : Int), .string S0] 26) = W1) := hW1.symm
      clear hW1 HX1 HB1
      go_upto_region 4 with fail
      rw [HW1.out]
      generalize hq1 : w1.heap.size = q1 at *
      clear hq1 HW1
      obtain ⟨x0, x1, _, _⟩ := HX2.out
      go_wp2_with fail
      refine (HH1.out _).mono ?_
      rintro e w2 ⟨rfl, hb⟩
      have HB3 : Hid (Below w.heap.size w w2) := HB2.out.trans (hb.mono HB2.out.size)
      have HY3 : Hid (Lay w2 q1 (.int .i64 (n : Int)) (.string S0)) := HY2.out.below hb
      clear hb x0 x1 HX2 HB2 HY2
      obtain ⟨W2, hW2⟩ : ∃ W2, W2 = w2.alloc (.cells #[.int .i64 (n : Int), .string S1] 26) := ⟨_, rfl⟩
      have HY4 : Hid (Lay W2 q1 (.int .i64 (n : Int)) (.string S0)) := by rw [hW2]; exact HY3.out.alloc _
      have HZ4 : Hid (Lay W2 w2.heap.size (.int .i64 (n : Int)) (.string S1)) := by rw [hW2]; exact Lay.made _ _ _ _
      have HB4 : Hid (Below w.heap.size w W2) := by rw [hW2]; exact HB3.out.alloc HB3.out.size _
      have HW2 : Hid (w2.alloc (.cells #[.int .i64 (n : Int), .string S1] 26) = W2) := hW2.symm
      clear hW2 HY3 HB3
      go_upto_region 5 with fail
      rw [HW2.out]
      generalize hq2 : w2.heap.size = q2 at *
      clear hq2 HW2
      have DY : Lay W2.drew q1 (.int .i64 (n : Int)) (.string S0) := HY4.out.kept (S := fun _ => False) (Kept.refl _ _).drew (fun h => h)
      have DZ : Lay W2.drew q2 (.int .i64 (n : Int)) (.string S1) := HZ4.out.kept (S := fun _ => False) (Kept.refl _ _).drew (fun h => h)
      have HBD : Hid (Below w.heap.size w W2.drew) := HB4.out.drew
      have p1 : W2.drew.cell? ⟨b, o, none⟩ = some (.bool false) := by rw [HBD.out.cell (lt_of_cell p0)]; exact p0
      go_region_held3 (fun w' => w'.cell? ⟨q1, 0, none⟩ = some (.int .i64 (n : Int)) ∧ w'.cell? ⟨q1, 1, none⟩ = some (.string S0) ∧ w'.cell? ⟨q2, 0, none⟩ = some (.int .i64 (n : Int)) ∧ w'.cell? ⟨q2, 1, none⟩ = some (.string S1)) ((first | exact ⟨EY.c0, EY.c1, EZ.c0, EZ.c1⟩ | exact ⟨DY.c0, DY.c1, DZ.c0, DZ.c1⟩)) ((go_at_call 27; (first | with_reducible refine (HI0.out _ HBE.out).mono ?_ | with_reducible refine (HI0.out _ HBD.out).mono ?_ | with_reducible refine (HI1.out _ HBE.out).mono ?_ | with_reducible refine (HI1.out _ HBD.out).mono ?_); rintro e w6 ⟨rfl, hb6⟩; have EY : Lay w6 q1 (.int .i64 (n : Int)) (.string S0) := (by first | exact EY.below hb6 | exact DY.below hb6); have EZ : Lay w6 q2 (.int .i64 (n : Int)) (.string S1) := (by first | exact EZ.below hb6 | exact DZ.below hb6); have HBE : Hid (Below w.heap.size w w6) := (by first | exact HBE.out.trans (hb6.mono HBE.out.size) | exact HBD.out.trans (hb6.mono HBD.out.size)); clear hb6))
      all_goals
        have p2 : w6.cell? ⟨b, o, none⟩ = some (.bool false) := by rw [HBE.out.cell (lt_of_cell p0)]; exact p0
        go_wp2
        go_ret
        exact ⟨ret_int (by first | exact hbit | rfl), HBE.out⟩
    · have HD : Hid (dc (true :: r) F = (r0 && r1)) := by
        show _ = _
        rw [dc, HR0.out, HR1.out]
        rfl
      have hbit : bits .and .i64 (r0.toNat : Int) (r1.toNat : Int) = (((r0 && r1).toNat : Nat) : Int) := by cases r0 <;> cases r1 <;> rfl
      generalize r.length = n at *
      have hb1 : (1 : Int) ≤ (n : Int) + 1 := by omega
      have HI0 : Hid _ := fun W => HI.out W S0 r0 (Or.inl ⟨rfl, rfl⟩)
      have HI1 : Hid _ := fun W => HI.out W S1 r1 (Or.inr ⟨rfl, rfl⟩)
      clear HI
      obtain ⟨W0, hW0⟩ : ∃ W0, W0 = w.alloc (.cells #[.int .i64 ((n : Int) + 1), .string S] 26) := ⟨_, rfl⟩
      have HX0 : Hid (Lay W0 w.heap.size (.int .i64 ((n : Int) + 1)) (.string S)) := by rw [hW0]; exact Lay.made _ _ _ _
      have HB0 : Hid (Below w.heap.size w W0) := by rw [hW0]; exact (Below.refl _ _).alloc (Nat.le_refl _) _
      have HW0 : Hid (w.alloc (.cells #[.int .i64 ((n : Int) + 1), .string S] 26) = W0) := hW0.symm
      clear hW0
      rw [HD.out]
      clear HD HR0 HR1
      go_enter Tryd.func27, Tryd.ntmps27
      go_upto_region 1 with fail
      rw [HW0.out]
      clear HW0
      obtain ⟨x0, x1, _, _⟩ := HX0.out
      go_wp2_with fail
      refine (HH0.out _).mono ?_
      rintro e w1 ⟨rfl, hb⟩
      have HB1 : Hid (Below w.heap.size w w1) := HB0.out.trans (hb.mono HB0.out.size)
      have HX1 : Hid (Lay w1 w.heap.size (.int .i64 ((n : Int) + 1)) (.string S)) := HX0.out.below hb
      clear hb x0 x1 HX0 HB0
      obtain ⟨W1, hW1⟩ : ∃ W1, W1 = w1.alloc (.cells #[.int .i64 (n : Int), .string S0] 26) := ⟨_, rfl⟩
      have HX2 : Hid (Lay W1 w.heap.size (.int .i64 ((n : Int) + 1)) (.string S)) := by rw [hW1]; exact HX1.out.alloc _
      have HY2 : Hid (Lay W1 w1.heap.size (.int .i64 (n : Int)) (.string S0)) := by rw [hW1]; exact Lay.made _ _ _ _
      have HB2 : Hid (Below w.heap.size w W1) := by rw [hW1]; exact HB1.out.alloc HB1.out.size _
      have HW1 : Hid (w1.alloc (.cells #[.int .i64 (n : Int), .string S0] 26) = W1) := hW1.symm
      clear hW1 HX1 HB1
      go_upto_region 4 with fail
      rw [HW1.out]
      generalize hq1 : w1.heap.size = q1 at *
      clear hq1 HW1
      obtain ⟨x0, x1, _, _⟩ := HX2.out
      go_wp2_with fail
      refine (HH1.out _).mono ?_
      rintro e w2 ⟨rfl, hb⟩
      have HB3 : Hid (Below w.heap.size w w2) := HB2.out.trans (hb.mono HB2.out.size)
      have HY3 : Hid (Lay w2 q1 (.int .i64 (n : Int)) (.string S0)) := HY2.out.below hb
      clear hb x0 x1 HX2 HB2 HY2
      obtain ⟨W2, hW2⟩ : ∃ W2, W2 = w2.alloc (.cells #[.int .i64 (n : Int), .string S1] 26) := ⟨_, rfl⟩
      have HY4 : Hid (Lay W2 q1 (.int .i64 (n : Int)) (.string S0)) := by rw [hW2]; exact HY3.out.alloc _
      have HZ4 : Hid (Lay W2 w2.heap.size (.int .i64 (n : Int)) (.string S1)) := by rw [hW2]; exact Lay.made _ _ _ _
      have HB4 : Hid (Below w.heap.size w W2) := by rw [hW2]; exact HB3.out.alloc HB3.out.size _
      have HW2 : Hid (w2.alloc (.cells #[.int .i64 (n : Int), .string S1] 26) = W2) := hW2.symm
      clear hW2 HY3 HB3
      go_upto_region 5 with fail
      rw [HW2.out]
      generalize hq2 : w2.heap.size = q2 at *
      clear hq2 HW2
      have DY : Lay W2.drew q1 (.int .i64 (n : Int)) (.string S0) := HY4.out.kept (S := fun _ => False) (Kept.refl _ _).drew (fun h => h)
      have DZ : Lay W2.drew q2 (.int .i64 (n : Int)) (.string S1) := HZ4.out.kept (S := fun _ => False) (Kept.refl _ _).drew (fun h => h)
      have HBD : Hid (Below w.heap.size w W2.drew) := HB4.out.drew
      have p1 : W2.drew.cell? ⟨b, o, none⟩ = some (.bool true) := by rw [HBD.out.cell (lt_of_cell p0)]; exact p0
      go_region_held3 (fun w' => w'.cell? ⟨q1, 0, none⟩ = some (.int .i64 (n : Int)) ∧ w'.cell? ⟨q1, 1, none⟩ = some (.string S0) ∧ w'.cell? ⟨q2, 0, none⟩ = some (.int .i64 (n : Int)) ∧ w'.cell? ⟨q2, 1, none⟩ = some (.string S1)) ((first | exact ⟨EY.c0, EY.c1, EZ.c0, EZ.c1⟩ | exact ⟨DY.c0, DY.c1, DZ.c0, DZ.c1⟩)) ((go_at_call 27; (first | with_reducible refine (HI0.out _ HBE.out).mono ?_ | with_reducible refine (HI0.out _ HBD.out).mono ?_ | with_reducible refine (HI1.out _ HBE.out).mono ?_ | with_reducible refine (HI1.out _ HBD.out).mono ?_); rintro e w6 ⟨rfl, hb6⟩; have EY : Lay w6 q1 (.int .i64 (n : Int)) (.string S0) := (by first | exact EY.below hb6 | exact DY.below hb6); have EZ : Lay w6 q2 (.int .i64 (n : Int)) (.string S1) := (by first | exact EZ.below hb6 | exact DZ.below hb6); have HBE : Hid (Below w.heap.size w w6) := (by first | exact HBE.out.trans (hb6.mono HBE.out.size) | exact HBD.out.trans (hb6.mono HBD.out.size)); clear hb6))
      all_goals
        have p2 : w6.cell? ⟨b, o, none⟩ = some (.bool true) := by rw [HBE.out.cell (lt_of_cell p0)]; exact p0
        go_wp2
        go_ret
        exact ⟨ret_int (by first | exact hbit | rfl), HBE.out⟩

end Go.Proofs.YtldeakifeifgdaaDoor.Dm2

/- The model's Decide and Choose. -/
namespace Go.Proofs.YtldeakifeifgdaaDoor.Dm3
open Go.RowKit
open Ta0 Ta1 Ta2 Ta3 Tc2 Tc5 Td1 Td2 Td4 De0 Dv0 Dm1 Dm2
open Dp5 (chV)
open Nd0 (Kept set_other set_same lt_of_cell)
open Nd6 (Bools)
open Ss0 (bs bs_size)
open Ss1 (tl)
set_option linter.unusedVariables false

theorem md_all (row : List Bool) (h : row.length ≤ 12) : MD row := by
  induction row with
  | nil => exact md_nil
  | cons q r ih =>
    rw [List.length_cons] at h
    exact md_cons (by omega) (ih (by omega))
theorem sDec (n : Nat) (F : Nat → Bool) (a : Option Addr) (row : List Bool) (c : Nat) (W : World) (hn : n ≤ 12) (hrn : row.length = n) (hB : Bools W a row) (hc : n ≤ c) :
    Calls Tryd.prog 27 #[.slice a n c, tv (n : Int) (bs (tab n F))] W fun e w' => e = .returned (.int .i64 ((dc row F).toNat : Int)) ∧ Below W.heap.size W w' := by
  subst hrn
  exact md_all row hn F W a c hB hc

set_option maxRecDepth 100000 in
set_option maxHeartbeats 4000000 in
theorem sDecide0 {N : Int} {S : ByteArray} (ra : Option Addr) (L c : Nat) (w : World) (hS : S.size ≤ 1048576) (h : ¬ (tokB N (tl S) = true ∧ (L : Int) = N)) :
    Calls Tryd.prog 8 #[.slice ra L c, tv N S] w fun e w' => e = .returned (.tuple #[.int .i64 0, .bool false]) ∧ Below w.heap.size w w' := by
  have HA : Hid (Below w.heap.size w (w.alloc (.cells #[.int .i64 N, .string S] 26))) := (Below.refl _ _).alloc (Nat.le_refl _) _
  have HRU : Hid (∀ W, Calls Tryd.prog 26 #[.slice ra L c, tv N S] W fun e w' => e = .returned (.bool false) ∧ Below W.heap.size W w') := fun W => sOkR0 ra L c W hS h
  clear h
  go_enter Tryd.func8, Tryd.ntmps8
  go_wp2_with fail
  refine (HRU.out _).mono ?_
  rintro e w1 ⟨rfl, hb⟩
  have HA1 : Hid (Below w.heap.size w w1) := HA.out.trans (hb.mono HA.out.size)
  clear hb
  go_wp2
  go_ret2
  exact ⟨rfl, HA1.out⟩

set_option maxRecDepth 100000 in
set_option maxHeartbeats 4000000 in
theorem sDecide (n : Nat) (F : Nat → Bool) (ra : Option Addr) (row : List Bool) (c : Nat) (w : World) (hn : n ≤ 12) (hrn : row.length = n) (hB : Bools w ra row) (hc : n ≤ c) :
    Calls Tryd.prog 8 #[.slice ra n c, tv (n : Int) (bs (tab n F))] w fun e w' => e = .returned (.tuple #[.int .i64 ((dc row F).toNat : Int), .bool true]) ∧ Below w.heap.size w w' := by
  have HRU : Hid (∀ W, Calls Tryd.prog 26 #[.slice ra n c, tv (n : Int) (bs (tab n F))] W fun e w' => e = .returned (.bool true) ∧ Below W.heap.size W w') := fun W => sOkR n F ra c W hn
  have HV : Hid (∀ W, Below w.heap.size w W → Calls Tryd.prog 27 #[.slice ra n c, tv (n : Int) (bs (tab n F))] W fun e w' => e = .returned (.int .i64 ((dc row F).toNat : Int)) ∧ Below W.heap.size W w') := fun W h => sDec n F ra row c W hn hrn (hB.below h) hc
  clear hB
  generalize bs (tab n F) = S at *
  generalize dc row F = r at *
  have HA : Hid (Below w.heap.size w (w.alloc (.cells #[.int .i64 (n : Int), .string S] 26))) := (Below.refl _ _).alloc (Nat.le_refl _) _
  have HX : Hid (Lay (w.alloc (.cells #[.int .i64 (n : Int), .string S] 26)) w.heap.size (.int .i64 (n : Int)) (.string S)) := Lay.made _ _ _ _
  go_enter Tryd.func8, Tryd.ntmps8
  go_wp2_with fail
  refine (HRU.out _).mono ?_
  rintro e w1 ⟨rfl, hb⟩
  have HA1 : Hid (Below w.heap.size w w1) := HA.out.trans (hb.mono HA.out.size)
  obtain ⟨x0, x1, _, _⟩ := HX.out.below hb
  clear hb
  go_wp2_with fail
  refine (HV.out _ HA1.out).mono ?_
  rintro e w2 ⟨rfl, hb⟩
  have HA2 : Hid (Below w.heap.size w w2) := HA1.out.trans (hb.mono HA1.out.size)
  clear hb x0 x1
  go_wp2
  go_ret2
  exact ⟨rfl, HA2.out⟩

theorem ch_yes {x y z : Bool} (h : x = z) : fst x y (z.toNat : Int) = 0 := by subst h; exact if_pos rfl
theorem ch_no {x y z : Bool} (h : x ≠ z) (h2 : y = z) : fst x y (z.toNat : Int) = 1 := by subst h2; cases x <;> cases y <;> first | rfl | exact absurd rfl h

end Go.Proofs.YtldeakifeifgdaaDoor.Dm3
